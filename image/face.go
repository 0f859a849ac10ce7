package image

import "palimpsest/api"

// mostRun is how many clusters a run may have.
const mostRun = 1 << 20

// none tells whether there is no image, or one that is closed.
func (x *Image) none() bool { return x == nil || x.core == nil }

// changing does what a call that writes is to do, if its arguments may be, and the image may be written. It is dead, if a step fails.
func (x *Image) changing(may func(c *core) bool, do func(c *core) api.Errno) api.Errno {
	switch {
	case x.none():
		return api.ErrNil
	case !x.write || !may(x.core):
		return api.ErrArg
	case x.dead:
		return api.ErrDead
	}
	no, failed := faced(func() api.Errno { return do(x.core) })
	x.dead = failed
	return no
}

// anything is for calls whose arguments are not ones that may not be.
func anything(*core) bool { return true }

// isRun is for calls that want a run of n clusters.
func isRun(n int) func(*core) bool {
	return func(*core) bool { return n >= 1 && n <= mostRun }
}

// failure is what a step that failed gives up with: its error.
type failure struct{ no api.Errno }

// faced is what a call answers, and whether a step of it failed.
func faced(call func() api.Errno) (no api.Errno, failed bool) {
	defer func() {
		switch f := recover().(type) {
		case nil:
		case failure:
			no, failed = f.no, true
		default:
			// It is no step, but a fault of the program: it is not to pass for an answer.
			panic(f)
		}
	}()
	return call(), false
}
