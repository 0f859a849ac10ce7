package deflate

import (
	"palimpsest/api"
	"palimpsest/bits"
	"palimpsest/lz"
)

// mostStored is how many bytes a stored block has at most.
const mostStored = 1<<16 - 1

// levels are the ways in which bytes are packed, by their levels.
func levels() [3]func([]byte) []byte {
	return [3]func([]byte) []byte{allStored, allFixed, shortest}
}

// allStored packs bytes as stored blocks.
func allStored(b []byte) []byte {
	p := press{bits.NewWriter()}
	p.stored(b, true)
	return p.to.Bytes()
}

// allFixed packs bytes as one fixed block.
func allFixed(b []byte) []byte {
	p := press{bits.NewWriter()}
	p.fixed(sure(lz.Parse(b, false)), true)
	return p.to.Bytes()
}

// shortest packs bytes in the way that makes fewest of them. Blocks of any kind are not always the shortest way: looking ahead may be of no use, and parts are held against each other only two by two.
func shortest(b []byte) []byte {
	least := parted(b, sure(lz.Parse(b, true)))
	for _, l := range [...][]byte{allFixed(b), allStored(b)} {
		if len(l) < len(least) {
			least = l
		}
	}
	return least
}

// parted packs bytes, and their tokens, as blocks of any kind, each of the one that takes fewest bits.
func parted(b []byte, l []api.Token) []byte {
	p := press{bits.NewWriter()}
	parts := cut(l)
	for i, x := range parts {
		last := i == len(parts)-1
		switch x.kind {
		case api.BlockStored:
			p.stored(b[:x.bytes], last)
		case api.BlockFixed:
			p.fixed(l[:x.tokens], last)
		case api.BlockDynamic:
			p.dynamic(x.plan, l[:x.tokens], last)
		}
		b, l = b[x.bytes:], l[x.tokens:]
	}
	return p.to.Bytes()
}

// press puts blocks.
type press struct{ to *bits.Writer }

// put puts a number of n bits.
func (p press) put(x uint64, n int) { hold(p.to.Put(x, n)) }

// begin puts what each block begins with.
func (p press) begin(kind api.BlockKind, last bool) {
	if last {
		p.put(1, 1)
	} else {
		p.put(0, 1)
	}
	p.put(uint64(kind), 2)
}

// stored puts bytes as stored blocks, as few as they go into; of no bytes it is one.
func (p press) stored(b []byte, last bool) {
	for {
		n := min(len(b), mostStored)
		p.begin(api.BlockStored, last && n == len(b))
		hold(p.to.Align())
		p.put(uint64(n), 16)
		p.put(uint64(turn(n)), 16)
		hold(p.to.Raw(b[:n]))
		b = b[n:]
		if len(b) == 0 {
			return
		}
	}
}

// fixed puts tokens as a fixed block.
func (p press) fixed(l []api.Token, last bool) {
	p.begin(api.BlockFixed, last)
	p.tokens(l, fixedCodes())
}

// dynamic puts tokens as a dynamic block that begins as planned.
func (p press) dynamic(x plan, l []api.Token, last bool) {
	p.begin(api.BlockDynamic, last)
	p.plan(x)
	p.tokens(l, codesOf(x.symbols, x.distances))
}

// tokens puts tokens by these codes, and the block's end.
func (p press) tokens(l []api.Token, c codes) {
	for _, t := range l {
		if t.Length == 0 {
			sure(c.symbols.Put(p.to, int(t.Byte)))
			continue
		}
		symbol, more, width, e := lz.Length(t.Length)
		hold(e)
		sure(c.symbols.Put(p.to, symbol))
		p.put(more, width)
		symbol, more, width, e = lz.Distance(t.Distance)
		hold(e)
		sure(c.distances.Put(p.to, symbol))
		p.put(more, width)
	}
	sure(c.symbols.Put(p.to, end))
}
