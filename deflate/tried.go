package deflate

import "palimpsest/api"

// tried is what some work answers; where it gives up, why.
func tried[T any](work func() T) (answer T, e api.Errno) {
	defer func() {
		switch x := recover().(type) {
		case nil:
		case api.Errno:
			e = x
		default:
			// It is no refusal, but a fault of the program: it is not to pass for an answer.
			panic(x)
		}
	}()
	return work(), api.OK
}

// sure is what a call answered; if it was refused, the work is given up.
func sure[T any](answer T, e api.Errno) T {
	hold(e)
	return answer
}

// hold gives the work up, if a call was refused.
func hold(e api.Errno) {
	if e != api.OK {
		panic(e)
	}
}
