package huff

import (
	"container/heap"
	"slices"

	"palimpsest/api"
)

// Lengths: P3.2.
func Lengths(most int, counts ...uint32) ([]int, api.Errno) {
	if most < 1 || most > api.MaxLength {
		return nil, api.ErrArg
	}
	if len(counts) > api.MaxSymbols {
		return nil, api.ErrLong
	}
	if present(counts) > 1<<most {
		return nil, api.ErrOver
	}
	lengths := plain(counts)
	if within(lengths, most) {
		return lengths, api.OK
	}
	return spent(most, counts), api.OK
}

// Plain: P3.2.
func Plain(counts ...uint32) ([]int, api.Errno) {
	if len(counts) > api.MaxSymbols {
		return nil, api.ErrLong
	}
	return plain(counts), api.OK
}

// present is how many symbols come at all.
func present(counts []uint32) int {
	sum := 0
	for _, count := range counts {
		if count > 0 {
			sum++
		}
	}
	return sum
}

// plain joins the two least trees till there is one: a symbol's length is how deep it is (Huffman).
func plain(counts []uint32) []int {
	lengths := make([]int, len(counts))
	var f forest
	p := f.pile(f.leaves(counts))
	if p.Len() == 0 {
		return lengths
	}
	if p.Len() == 1 {
		p.least().sink(1, lengths)
		return lengths
	}
	for p.Len() > 1 {
		heap.Push(p, f.joined(p.least(), p.least()))
	}
	p.least().sink(0, lengths)
	return lengths
}

// spent tells lengths of at most most bits, where plain ones would have more.
//
// A symbol's length n is n coins, of 1/2, 1/4 .. 1/2^n, each at the symbol's count; lengths are whole, if their coins make one less than there are symbols. The least coins that do are found from the smallest ones on: two of a kind, the least ones, are as one of the next kind (Larmore and Hirschberg).
func spent(most int, counts []uint32) []int {
	lengths := make([]int, len(counts))
	var f forest
	p := f.pile(f.leaves(counts))
	for range most - 1 {
		p = f.pile(append(f.leaves(counts), f.pairs(p)...))
	}
	for range 2 * (present(counts) - 1) {
		p.least().tally(lengths)
	}
	return lengths
}

// tree is a symbol, or two trees that are as one.
type tree struct {
	cost        uint64
	made        int // how many were made ahead of it
	symbol      int
	left, right *tree
}

// sink tells each symbol's depth, the tree itself being at that depth.
func (t *tree) sink(depth int, lengths []int) {
	if t.left == nil {
		lengths[t.symbol] = depth
		return
	}
	t.left.sink(depth+1, lengths)
	t.right.sink(depth+1, lengths)
}

// tally adds 1 for each time that a symbol is in the tree.
func (t *tree) tally(lengths []int) {
	if t.left == nil {
		lengths[t.symbol]++
		return
	}
	t.left.tally(lengths)
	t.right.tally(lengths)
}

// forest makes trees, and knows how many it made.
type forest struct{ made int }

// grown numbers a tree.
func (f *forest) grown(t tree) *tree {
	t.made = f.made
	f.made++
	return &t
}

// leaves are trees of the symbols that come at all.
func (f *forest) leaves(counts []uint32) []*tree {
	var trees []*tree
	for symbol, count := range counts {
		if count > 0 {
			trees = append(trees, f.grown(tree{cost: uint64(count), symbol: symbol}))
		}
	}
	return trees
}

// joined is two trees as one.
func (f *forest) joined(left, right *tree) *tree {
	return f.grown(tree{cost: left.cost + right.cost, left: left, right: right})
}

// pairs takes a pile's trees two by two, the least ones first; an odd one is left.
func (f *forest) pairs(p *pile) []*tree {
	var trees []*tree
	for p.Len() > 1 {
		trees = append(trees, f.joined(p.least(), p.least()))
	}
	return trees
}

// ahead tells whether a comes off ahead of b: the older one of two that cost the same, so that plain lengths are no longer than they must be.
func (f *forest) ahead(a, b *tree) bool {
	if a.cost != b.cost {
		return a.cost < b.cost
	}
	return a.made < b.made
}

// pile is a pile of these trees, which become its own.
func (f *forest) pile(trees []*tree) *pile {
	p := &pile{trees: trees, ahead: f.ahead}
	heap.Init(p)
	return p
}

// pile is trees of which the least one comes off first (a heap of container/heap).
type pile struct {
	trees []*tree
	ahead func(a, b *tree) bool
}

// least takes the least tree off.
func (p *pile) least() *tree {
	t, _ := heap.Pop(p).(*tree)
	return t
}

func (p *pile) Len() int           { return len(p.trees) }
func (p *pile) Less(i, j int) bool { return p.ahead(p.trees[i], p.trees[j]) }
func (p *pile) Swap(i, j int)      { p.trees[i], p.trees[j] = p.trees[j], p.trees[i] }

// Push is called by container/heap alone, with trees alone.
func (p *pile) Push(x any) {
	if t, ok := x.(*tree); ok {
		p.trees = append(p.trees, t)
	}
}

// Pop is called by container/heap alone.
func (p *pile) Pop() any {
	last := len(p.trees) - 1
	t := p.trees[last]
	p.trees = slices.Delete(p.trees, last, last+1)
	return t
}
