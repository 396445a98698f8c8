package tests

import (
	"bytes"
	"fmt"
	"math"
	"math/rand/v2"
	"slices"
	"testing"

	"loop.example/g00663/impl"
)

// treePaths are the paths of all trees.
var treePaths = func() [7][][]int {
	var all [7][][]int
	for log := range all {
		all[log] = modelPaths(log)
	}
	return all
}()

// oramTold is what a function about Orams returns, as far as it returns such a thing.
type oramTold struct {
	o     impl.Oram
	pos   []int
	data  []byte
	cells []impl.Cell
	code  int
}

func sameOram(a impl.Oram, b impl.Oram) bool {
	return a.Log == b.Log && a.Width == b.Width && a.Bound == b.Bound && sameMem(a.Mem, b.Mem) && sameBlocks(a.Stash, b.Stash)
}

func sameTold(a oramTold, b oramTold) bool {
	return a.code == b.code && sameOram(a.o, b.o) && slices.Equal(a.pos, b.pos) && bytes.Equal(a.data, b.data) && sameCells(a.cells, b.cells)
}

func copyOram(o impl.Oram) impl.Oram {
	return impl.Oram{Log: o.Log, Width: o.Width, Bound: o.Bound, Mem: copyMem(o.Mem), Stash: copyBlocks(o.Stash)}
}

func copyOps(ops []impl.OramOp) []impl.OramOp {
	var result []impl.OramOp
	for _, op := range ops {
		result = append(result, impl.OramOp{Id: op.Id, At: op.At, Data: bytes.Clone(op.Data)})
	}
	return result
}

// allData returns the lists of bytes of a result.
func (a oramTold) allData() [][]byte {
	lists := [][]byte{a.data}
	for _, cell := range append(slices.Clone(a.o.Mem.Cells), a.cells...) {
		lists = append(lists, cell.Data)
	}
	for _, b := range a.o.Stash {
		lists = append(lists, b.Data)
	}
	return lists
}

// spoil overwrites all lists of a result but those of bytes.
func (a oramTold) spoil() {
	for _, cells := range [][]impl.Cell{a.o.Mem.Cells, a.cells} {
		for i := range cells[:cap(cells)] {
			cells[:cap(cells)][i] = impl.Cell{Data: []byte{99}}
		}
	}
	for i := range a.o.Mem.Log[:cap(a.o.Mem.Log)] {
		a.o.Mem.Log[:cap(a.o.Mem.Log)][i] = impl.Touch{Op: 99, Addr: 99, Len: 99}
	}
	for i := range a.o.Stash[:cap(a.o.Stash)] {
		a.o.Stash[:cap(a.o.Stash)][i] = blockOf(-9, -9)
	}
	spoil(a.pos)
}

// ownData writes other bytes to each list than to any other one, also behind its length, and reports whether all lists keep theirs.
func ownData(lists [][]byte) bool {
	for _, numberOf := range []func(i int) byte{func(i int) byte { return byte(i) }, func(i int) byte { return byte(i >> 8) }} {
		for i, list := range lists {
			for j := range list[:cap(list)] {
				list[:cap(list)][j] = numberOf(i)
			}
		}
		for i, list := range lists {
			for _, one := range list[:cap(list)] {
				if one != numberOf(i) {
					return false
				}
			}
		}
	}
	return true
}

// A keeper makes arguments with other elements behind the lengths of their lists, and reports whether all of that stays as it was.
type keeper struct {
	same []func() bool
}

func (k *keeper) kept() bool {
	for _, same := range k.same {
		if !same() {
			return false
		}
	}
	return true
}

// roomyList returns a copy of a list, with others behind its length, for which the keeper asks.
func roomyList[T any](k *keeper, list []T, equal func(a T, b T) bool, others ...T) []T {
	room := append(slices.Clone(list), others...)
	was := slices.Clone(room)
	k.same = append(k.same, func() bool { return slices.EqualFunc(room, was, equal) })
	return room[:len(list)]
}

func (k *keeper) bytes(list []byte) []byte {
	return roomyList(k, list, func(a byte, b byte) bool { return a == b }, 88, 1, 0, 1, 1, 88)
}

func (k *keeper) ints(list []int) []int {
	return roomyList(k, list, func(a int, b int) bool { return a == b }, 0, -1, 1)
}

// sameList is true for two lists at the same place in memory; what they hold is asked for elsewhere.
func sameList(a []byte, b []byte) bool {
	return len(a) == len(b) && cap(a) == cap(b) && (cap(a) == 0 || &a[:1][0] == &b[:1][0])
}

func (k *keeper) cells(list []impl.Cell) []impl.Cell {
	var cells []impl.Cell
	for _, cell := range list {
		cells = append(cells, impl.Cell{Data: k.bytes(cell.Data)})
	}
	return roomyList(k, cells, func(a impl.Cell, b impl.Cell) bool { return sameList(a.Data, b.Data) }, impl.Cell{Data: []byte{1, 2}}, impl.Cell{})
}

func (k *keeper) blocks(list []impl.Block) []impl.Block {
	var blocks []impl.Block
	for _, b := range list {
		blocks = append(blocks, impl.Block{Id: b.Id, Leaf: b.Leaf, Data: k.bytes(b.Data)})
	}
	same := func(a impl.Block, b impl.Block) bool {
		return a.Id == b.Id && a.Leaf == b.Leaf && sameList(a.Data, b.Data)
	}
	return roomyList(k, blocks, same, blockOf(-1, 99, 1), blockOf(255, 0))
}

func (k *keeper) ops(list []impl.OramOp) []impl.OramOp {
	var ops []impl.OramOp
	for _, op := range list {
		ops = append(ops, impl.OramOp{Id: op.Id, At: op.At, Data: k.bytes(op.Data)})
	}
	same := func(a impl.OramOp, b impl.OramOp) bool {
		return a.Id == b.Id && a.At == b.At && sameList(a.Data, b.Data)
	}
	return roomyList(k, ops, same, impl.OramOp{Id: -7}, impl.OramOp{Id: -1})
}

func (k *keeper) oram(o impl.Oram) impl.Oram {
	touches := roomyList(k, o.Mem.Log, func(a impl.Touch, b impl.Touch) bool { return a == b }, impl.Touch{Op: 3}, impl.Touch{Op: 1, Addr: 500, Len: 1})
	m := impl.Mem{Size: o.Mem.Size, Cells: k.cells(o.Mem.Cells), Log: touches}
	return impl.Oram{Log: o.Log, Width: o.Width, Bound: o.Bound, Mem: m, Stash: k.blocks(o.Stash)}
}

// modelOramNodes returns the blocks of each node, node 1 at index 0, and whether all cells are those of nodes.
func modelOramNodes(o impl.Oram) ([][]impl.Block, bool) {
	var nodes [][]impl.Block
	for _, cell := range o.Mem.Cells {
		n, ok := modelNodeRead(cell.Data, o.Log, o.Width)
		if !ok {
			return nil, false
		}
		nodes = append(nodes, n.Blocks)
	}
	return nodes, true
}

// modelOramMemOk is the document's rule for the memory of an Oram whose Log and Width are in their ranges.
func modelOramMemOk(o impl.Oram) bool {
	m, size := o.Mem, 4*(o.Width+3)
	if m.Size != size || len(m.Cells) != modelNodes(treePaths[o.Log]) || len(m.Log) > 6000 {
		return false
	}
	for _, cell := range m.Cells {
		if len(cell.Data) != size {
			return false
		}
	}
	for _, touch := range m.Log {
		if touch.Op != 1 && touch.Op != 2 || touch.Addr < 0 || touch.Addr >= len(m.Cells) || touch.Len != size {
			return false
		}
	}
	return true
}

// modelOramOk is the document's rule for a valid Oram.
func modelOramOk(o impl.Oram) bool {
	if o.Log < 0 || o.Log > 6 || o.Width < 1 || o.Width > 200 || o.Bound < 0 || o.Bound > 64 {
		return false
	}
	nodes, ok := modelOramNodes(o)
	if !ok || !modelOramMemOk(o) || !modelStashOk(o.Stash, o.Log, o.Width) || len(o.Stash) > o.Bound {
		return false
	}
	ids := idsOf(o.Stash)
	for i, blocks := range nodes {
		for _, b := range blocks {
			if !slices.Contains(treePaths[o.Log][b.Leaf], i+1) || slices.Contains(ids, b.Id) {
				return false
			}
			ids = append(ids, b.Id)
		}
	}
	return true
}

// modelOramBlocks asks for each Id whether there is such a block.
func modelOramBlocks(o impl.Oram) []impl.Block {
	if !modelOramOk(o) {
		return nil
	}
	nodes, _ := modelOramNodes(o)
	var list []impl.Block
	for id := range 256 {
		for _, blocks := range append(nodes, o.Stash) {
			if b, ok := modelStashFind(blocks, id); ok {
				list = append(list, b)
			}
		}
	}
	return list
}

// modelPass reads and writes the path of a leaf; in between the list of blocks is changed.
func modelPass(o impl.Oram, leaf int, change func(list []impl.Block) []impl.Block) (impl.Oram, int) {
	path := treePaths[o.Log][leaf]
	if len(o.Mem.Log)+2*len(path) > 6000 {
		return impl.Oram{}, 4
	}
	after := copyOram(o)
	nodes, _ := modelOramNodes(o)
	list := after.Stash
	for _, node := range path {
		after.Mem.Log = append(after.Mem.Log, impl.Touch{Op: 1, Addr: node - 1, Len: o.Mem.Size})
		list = append(list, nodes[node-1]...)
	}
	list = change(list)
	slices.SortFunc(list, func(a impl.Block, b impl.Block) int { return a.Id - b.Id })
	var meets []int
	for _, other := range treePaths[o.Log] {
		meets = append(meets, modelMeet(path, other))
	}
	plan, rest := modelEvict(list, meets, o.Log)
	if len(rest) > o.Bound {
		return impl.Oram{}, 3
	}
	for level := len(path) - 1; level >= 0; level-- {
		var n impl.Node
		for _, b := range list {
			if slices.Contains(plan, impl.Put{Level: level, Id: b.Id}) {
				n.Blocks = append(n.Blocks, b)
			}
		}
		after.Mem.Log = append(after.Mem.Log, impl.Touch{Op: 2, Addr: path[level] - 1, Len: o.Mem.Size})
		after.Mem.Cells[path[level]-1].Data = modelNodeOf(n, o.Log, o.Width)
	}
	after.Stash = rest
	return after, 0
}

func modelDummy(o impl.Oram, leaf int) oramTold {
	if !modelOramOk(o) || leaf < 0 || leaf >= len(treePaths[o.Log]) {
		return oramTold{code: 1}
	}
	after, code := modelPass(o, leaf, func(list []impl.Block) []impl.Block { return list })
	return oramTold{o: after, code: code}
}

func modelAccess(o impl.Oram, leaf int, id int, next int, at int, data []byte) oramTold {
	if !modelOramOk(o) || min(leaf, next) < 0 || max(leaf, next) >= len(treePaths[o.Log]) {
		return oramTold{code: 1}
	}
	// At most MaxWidth + MaxWidth, as the length alone is compared first.
	if id < 0 || id > 255 || at < 0 || at > o.Width || len(data) > o.Width || at+len(data) > o.Width {
		return oramTold{code: 1}
	}
	nodes, _ := modelOramNodes(o)
	for i, blocks := range nodes {
		if slices.Contains(idsOf(blocks), id) && !slices.Contains(treePaths[o.Log][leaf], i+1) {
			return oramTold{code: 2}
		}
	}
	var before []byte
	after, code := modelPass(o, leaf, func(list []impl.Block) []impl.Block {
		if !slices.Contains(idsOf(list), id) {
			list = append(list, blockOf(id, 0, make([]byte, o.Width)...))
		}
		for i, b := range list {
			if b.Id == id {
				before = b.Data
				changed := bytes.Clone(b.Data)
				for j, one := range data {
					changed[at+j] = one
				}
				list[i] = impl.Block{Id: id, Leaf: next, Data: changed}
			}
		}
		return list
	})
	if code != 0 {
		return oramTold{code: code}
	}
	return oramTold{o: after, data: before}
}

func modelPlay(o impl.Oram, pos []int, ops []impl.OramOp, draws []int) oramTold {
	if !modelOramOk(o) || len(pos) > 256 || len(ops) > 128 || len(draws) != len(ops) {
		return oramTold{code: 1}
	}
	leaves := len(treePaths[o.Log])
	if slices.ContainsFunc(pos, func(leaf int) bool { return leaf < 0 || leaf >= leaves }) ||
		slices.ContainsFunc(draws, func(draw int) bool { return draw < 0 || draw > 65535 }) ||
		slices.ContainsFunc(ops, func(op impl.OramOp) bool { return op.Id < -1 || op.Id >= len(pos) }) {
		return oramTold{code: 1}
	}
	told := oramTold{o: copyOram(o), pos: slices.Clone(pos)}
	for i, op := range ops {
		next := draws[i] & (leaves - 1)
		step := oramTold{}
		if op.Id == -1 {
			step = modelDummy(told.o, next)
		} else {
			step = modelAccess(told.o, told.pos[op.Id], op.Id, next, op.At, op.Data)
		}
		if step.code != 0 {
			return oramTold{code: step.code}
		}
		told.o = step.o
		if op.Id != -1 {
			told.pos[op.Id] = next
			told.cells = append(told.cells, impl.Cell{Data: step.data})
		}
	}
	return told
}

// oneFlaw tells in which part two results differ.
func oneFlaw(got oramTold, want oramTold) string {
	switch {
	case got.code != want.code:
		return fmt.Sprintf("the code is %d, not %d", got.code, want.code)
	case !bytes.Equal(got.data, want.data):
		return fmt.Sprintf("the bytes are %v, not %v", got.data, want.data)
	case !slices.Equal(got.o.Mem.Log, want.o.Mem.Log):
		return fmt.Sprintf("the access log is %s, not %s", impl.TouchText(got.o.Mem.Log), impl.TouchText(want.o.Mem.Log))
	case !sameBlocks(got.o.Stash, want.o.Stash):
		return fmt.Sprintf("the Stash is %v, not %v", got.o.Stash, want.o.Stash)
	case !sameCells(got.o.Mem.Cells, want.o.Mem.Cells):
		return fmt.Sprintf("the cells are %v, not %v", got.o.Mem.Cells, want.o.Mem.Cells)
	case !slices.Equal(got.pos, want.pos):
		return fmt.Sprintf("pos is %v, not %v", got.pos, want.pos)
	case !sameCells(got.cells, want.cells):
		return fmt.Sprintf("the bytes of all operations are %v, not %v", got.cells, want.cells)
	}
	return fmt.Sprintf("Log, Width, Bound or Size: %d, %d, %d, %d, not %d, %d, %d, %d", got.o.Log, got.o.Width, got.o.Bound, got.o.Mem.Size,
		want.o.Log, want.o.Width, want.o.Bound, want.o.Mem.Size)
}

// wantTold makes a call twice and compares both results with the model; then it overwrites the first one.
func wantTold(t *testing.T, what string, k *keeper, want oramTold, call func() oramTold) oramTold {
	t.Helper()
	first, second := call(), call()
	for i, got := range []oramTold{first, second} {
		if !sameTold(got, want) {
			t.Fatalf("%s, call %d: %s", what, i, oneFlaw(got, want))
		}
	}
	lists := append(first.allData(), second.allData()...)
	first.spoil()
	if !sameTold(second, want) {
		t.Fatalf("%s: when a result is overwritten, another one differs: %s", what, oneFlaw(second, want))
	}
	result := oramTold{o: copyOram(second.o), pos: slices.Clone(second.pos), data: bytes.Clone(second.data), cells: copyMem(impl.Mem{Cells: second.cells}).Cells, code: second.code}
	second.spoil()
	if !ownData(lists) {
		t.Fatalf("%s: lists of bytes of one result or of two share memory", what)
	}
	if !k.kept() {
		t.Fatalf("%s: an argument is modified, or it shares memory with a result", what)
	}
	return result
}

func wantAccess(t *testing.T, what string, o impl.Oram, leaf int, id int, next int, at int, data []byte) oramTold {
	t.Helper()
	k := &keeper{}
	a, own := k.oram(o), k.bytes(data)
	what = fmt.Sprintf("%s: OramAccess(.., %d, %d, %d, %d, %v)", what, leaf, id, next, at, data)
	return wantTold(t, what, k, modelAccess(o, leaf, id, next, at, data), func() oramTold {
		after, before, code := impl.OramAccess(a, leaf, id, next, at, own)
		return oramTold{o: after, data: before, code: code}
	})
}

func wantDummy(t *testing.T, what string, o impl.Oram, leaf int) oramTold {
	t.Helper()
	k := &keeper{}
	a := k.oram(o)
	return wantTold(t, fmt.Sprintf("%s: OramDummy(.., %d)", what, leaf), k, modelDummy(o, leaf), func() oramTold {
		after, code := impl.OramDummy(a, leaf)
		return oramTold{o: after, code: code}
	})
}

func wantPlay(t *testing.T, what string, o impl.Oram, pos []int, ops []impl.OramOp, draws []int) oramTold {
	t.Helper()
	k := &keeper{}
	a, leaves, steps, numbers := k.oram(o), k.ints(pos), k.ops(ops), k.ints(draws)
	what = fmt.Sprintf("%s: OramPlay of %d leaves, %d operations, %d draws", what, len(pos), len(ops), len(draws))
	return wantTold(t, what, k, modelPlay(o, pos, ops, draws), func() oramTold {
		after, at, cells, code := impl.OramPlay(a, leaves, steps, numbers)
		return oramTold{o: after, pos: at, cells: cells, code: code}
	})
}

// wantCode makes sure that a result is the code alone.
func wantCode(t *testing.T, what string, got oramTold, code int) {
	t.Helper()
	if got.code != code || code != impl.OramFine && !sameTold(got, oramTold{code: code}) {
		t.Fatalf("%s: code %d, want %d", what, got.code, code)
	}
}

func wantOram(t *testing.T, what string, o impl.Oram, ok bool) {
	t.Helper()
	if model := modelOramOk(o); model != ok {
		t.Fatalf("%s: the model of OramOk is %v", what, model)
	}
	k := &keeper{}
	a := k.oram(o)
	if got := impl.OramOk(a); got != ok {
		t.Fatalf("%s: OramOk is %v", what, got)
	}
	want := modelOramBlocks(o)
	first, second := impl.OramBlocks(a), impl.OramBlocks(a)
	if !sameBlocks(first, want) || !sameBlocks(second, want) {
		t.Fatalf("%s: OramBlocks is %v, then %v, not %v", what, first, second, want)
	}
	spoilsInTurn(t, what, first)
	if !sameBlocks(second, want) || !k.kept() {
		t.Fatalf("%s: OramBlocks modifies its argument, or results share memory", what)
	}
}

// failOram asks all functions about an Oram that is not valid.
func failOram(t *testing.T, what string, o impl.Oram) {
	t.Helper()
	wantOram(t, what, o, false)
	wantCode(t, what, wantAccess(t, what, o, 0, 0, 0, 0, nil), impl.OramForm)
	wantCode(t, what, wantAccess(t, what, o, 0, 1, 0, 0, []byte{1}), impl.OramForm)
	wantCode(t, what, wantDummy(t, what, o, 0), impl.OramForm)
	wantCode(t, what, wantPlay(t, what, o, nil, nil, nil), impl.OramForm)
	wantCode(t, what, wantPlay(t, what, o, []int{0}, []impl.OramOp{{Id: 0}}, []int{0}), impl.OramForm)
	wantCode(t, what, wantPlay(t, what, o, nil, []impl.OramOp{{Id: -1}}, []int{0}), impl.OramForm)
}

// oramOf returns an Oram with blocks in its nodes, of which node 1 is that at index 0, and in its Stash.
func oramOf(log int, width int, bound int, nodes [][]impl.Block, stash ...impl.Block) impl.Oram {
	o := impl.Oram{Log: log, Width: width, Bound: bound, Mem: impl.Mem{Size: 12 + 4*width}, Stash: stash}
	for i := range modelNodes(treePaths[log]) {
		var n impl.Node
		if i < len(nodes) {
			n.Blocks = nodes[i]
		}
		o.Mem.Cells = append(o.Mem.Cells, impl.Cell{Data: modelNodeOf(n, log, width)})
	}
	return o
}

// touched returns the Oram with n accesses in its log.
func touched(o impl.Oram, n int) impl.Oram {
	after := copyOram(o)
	after.Mem.Log = nil
	for i := range n {
		after.Mem.Log = append(after.Mem.Log, impl.Touch{Op: 1 + i%2, Addr: i / 2 % len(o.Mem.Cells), Len: o.Mem.Size})
	}
	return after
}

// anyOram draws a valid Oram with at most n blocks, which are as often far from the root as near to it. The leaves of its blocks are drawn by
// leafOf. Its log has some accesses.
func anyOram(r *rand.Rand, log int, width int, bound int, n int, leafOf func(r *rand.Rand) int) impl.Oram {
	nodes := make([][]impl.Block, modelNodes(treePaths[log]))
	var stash []impl.Block
	for _, b := range anyBlocks(r, n, log, width) {
		b.Leaf = leafOf(r)
		path := treePaths[log][b.Leaf]
		level := r.IntN(log + 2)
		if level > log {
			if len(stash) < bound {
				stash = append(stash, b)
			}
			continue
		}
		if at := path[level] - 1; len(nodes[at]) < 4 {
			nodes[at] = append(nodes[at], b)
		}
	}
	return touched(oramOf(log, width, bound, nodes, stash...), r.IntN(9))
}

func anyLeaf(log int) func(r *rand.Rand) int {
	return func(r *rand.Rand) int { return r.IntN(1 << log) }
}

// baseOram has blocks in the root, in inner nodes, in leaves, one of which is full, and in the Stash.
func baseOram() impl.Oram {
	return oramOf(2, 2, 4, [][]impl.Block{
		{blockOf(10, 3, 1, 2), blockOf(20, 0, 3, 4)},
		{blockOf(5, 1, 5, 6), blockOf(8, 0, 27, 28)},
		{blockOf(30, 2, 7, 8), blockOf(31, 3, 29, 30)},
		{blockOf(1, 0, 9, 10), blockOf(200, 0, 11, 12)},
		nil,
		{blockOf(7, 2, 13, 14)},
		{blockOf(0, 3, 0, 15), blockOf(100, 3, 16, 17), blockOf(101, 3, 18, 19), blockOf(255, 3, 255, 20)},
	}, blockOf(3, 0, 21, 22), blockOf(40, 3, 23, 24), blockOf(250, 1, 25, 26))
}

// crowdedOram has a path of the leaf 0 that is full of blocks of this leaf, a block on the other path, and no room in its Stash.
func crowdedOram(bound int) impl.Oram {
	list := evenStash(8+bound, 1, 0, 1)
	return oramOf(1, 1, bound, [][]impl.Block{list[:4], list[4:8], {blockOf(100, 1, 100)}}, list[8:]...)
}

func TestOramExamples(t *testing.T) {
	if impl.MaxBound != 64 || impl.OramFine != 0 || impl.OramForm != 1 || impl.OramLost != 2 || impl.OramOver != 3 || impl.OramFull != 4 {
		t.Error("constants")
	}
	o := impl.OramNew(1, 2, 4)
	if len(o.Mem.Cells) != 3 || len(o.Mem.Cells[0].Data) != 20 || len(o.Mem.Cells[1].Data) != 20 || len(o.Mem.Cells[2].Data) != 20 {
		t.Errorf("OramNew(1, 2, 4) is %v", o)
	}
	first, before, code := impl.OramAccess(o, 0, 5, 1, 0, []byte{7, 8})
	if code != impl.OramFine || !bytes.Equal(before, []byte{0, 0}) {
		t.Errorf("the first access: %v, %d", before, code)
	}
	second, before, code := impl.OramAccess(first, 1, 5, 1, 1, []byte{9})
	if code != impl.OramFine || !bytes.Equal(before, []byte{7, 8}) {
		t.Errorf("the second access: %v, %d", before, code)
	}
	if text := impl.TouchText(second.Mem.Log); text != "r0:20 r1:20 w1:20 w0:20 r0:20 r2:20 w2:20 w0:20" {
		t.Errorf("the access log is %s", text)
	}
	third, before, code := impl.OramAccess(second, 0, 5, 1, 0, nil)
	wantCode(t, "the third access", oramTold{o: third, data: before, code: code}, impl.OramLost)
	if list := impl.OramBlocks(second); !sameBlocks(list, []impl.Block{blockOf(5, 1, 7, 9)}) {
		t.Errorf("OramBlocks is %v", list)
	}
}

// TestOramWritten holds the program and the plain model against cells that are written out.
func TestOramWritten(t *testing.T) {
	o := oramOf(1, 1, 2, [][]impl.Block{
		{blockOf(4, 0, 40), blockOf(6, 1, 60)},
		{blockOf(1, 0, 10), blockOf(5, 0, 50), blockOf(8, 0, 80)},
		{blockOf(2, 1, 20)},
	}, blockOf(3, 1, 30), blockOf(7, 0, 70))
	// The leaf 0 takes the first blocks of its own: 1, 4, 5, 7; the root takes 3, 6 and 8, and the Stash is empty.
	want := oramOf(1, 1, 2, [][]impl.Block{
		{blockOf(3, 1, 30), blockOf(6, 1, 60), blockOf(8, 0, 80)},
		{blockOf(1, 0, 10), blockOf(4, 0, 40), blockOf(5, 0, 50), blockOf(7, 0, 70)},
		{blockOf(2, 1, 20)},
	})
	want.Mem.Log = []impl.Touch{{Op: 1, Addr: 0, Len: 16}, {Op: 1, Addr: 1, Len: 16}, {Op: 2, Addr: 1, Len: 16}, {Op: 2, Addr: 0, Len: 16}}
	if got := wantDummy(t, "written", o, 0); !sameOram(got.o, want) || got.code != 0 {
		t.Errorf("OramDummy: %s", oneFlaw(got, oramTold{o: want}))
	}
	// The block 0 is new: it is first at the leaf 1, where 2 and 3 and 6 follow; the root takes 4 and 7.
	want = oramOf(1, 1, 2, [][]impl.Block{
		{blockOf(4, 0, 40), blockOf(7, 0, 70)},
		{blockOf(1, 0, 10), blockOf(5, 0, 50), blockOf(8, 0, 80)},
		{blockOf(0, 1, 99), blockOf(2, 1, 20), blockOf(3, 1, 30), blockOf(6, 1, 60)},
	})
	want.Mem.Log = []impl.Touch{{Op: 1, Addr: 0, Len: 16}, {Op: 1, Addr: 2, Len: 16}, {Op: 2, Addr: 2, Len: 16}, {Op: 2, Addr: 0, Len: 16}}
	if got := wantAccess(t, "written", o, 1, 0, 1, 0, []byte{99}); !sameTold(got, oramTold{o: want, data: []byte{0}}) {
		t.Errorf("OramAccess of a new block: %s", oneFlaw(got, oramTold{o: want, data: []byte{0}}))
	}
	// The block 3 moves from the Stash to the leaf 0, which has 1, 3, 4, 5 then; the root has 6, 7, 8.
	want = oramOf(1, 1, 2, [][]impl.Block{
		{blockOf(6, 1, 60), blockOf(7, 0, 70), blockOf(8, 0, 80)},
		{blockOf(1, 0, 10), blockOf(3, 0, 30), blockOf(4, 0, 40), blockOf(5, 0, 50)},
		{blockOf(2, 1, 20)},
	})
	want.Mem.Log = []impl.Touch{{Op: 1, Addr: 0, Len: 16}, {Op: 1, Addr: 1, Len: 16}, {Op: 2, Addr: 1, Len: 16}, {Op: 2, Addr: 0, Len: 16}}
	if got := wantAccess(t, "written", o, 0, 3, 0, 1, nil); !sameTold(got, oramTold{o: want, data: []byte{30}}) {
		t.Errorf("OramAccess of a block of the Stash: %s", oneFlaw(got, oramTold{o: want, data: []byte{30}}))
	}
	// The block 1 goes to the other side, so that the root takes it with 3 and 6; the leaf 0 has 4 and 7 then.
	o.Mem.Cells[1].Data = modelNodeOf(nodeOf(blockOf(1, 0, 10)), 1, 1)
	want = oramOf(1, 1, 2, [][]impl.Block{{blockOf(1, 1, 10), blockOf(3, 1, 30), blockOf(6, 1, 60)}, {blockOf(4, 0, 40), blockOf(7, 0, 70)}, {blockOf(2, 1, 20)}})
	want.Mem.Log = []impl.Touch{{Op: 1, Addr: 0, Len: 16}, {Op: 1, Addr: 1, Len: 16}, {Op: 2, Addr: 1, Len: 16}, {Op: 2, Addr: 0, Len: 16}}
	if got := wantAccess(t, "written", o, 0, 1, 1, 1, []byte{}); !sameTold(got, oramTold{o: want, data: []byte{10}}) {
		t.Errorf("OramAccess of a block that leaves its leaf: %s", oneFlaw(got, oramTold{o: want, data: []byte{10}}))
	}
}

func TestOramNewEnds(t *testing.T) {
	for _, log := range append([]int{-2, -1, 0, 1, 2, 3, 4, 5, 6, 7, 8}, farInts()...) {
		for _, width := range someWidths() {
			for _, bound := range append([]int{-2, -1, 0, 1, 63, 64, 65, 66}, farInts()...) {
				what := fmt.Sprintf("OramNew(%d, %d, %d)", log, width, bound)
				first := impl.OramNew(log, width, bound)
				if log < 0 || log > 6 || width < 1 || width > 200 || bound < 0 || bound > 64 {
					if !sameOram(first, impl.Oram{}) {
						t.Fatalf("%s is %v", what, first)
					}
					continue
				}
				want := oramOf(log, width, bound, nil)
				second := impl.OramNew(log, width, bound)
				if !sameOram(first, want) || !sameOram(second, want) {
					t.Fatalf("%s: %s", what, oneFlaw(oramTold{o: first}, oramTold{o: want}))
				}
				lists := append(oramTold{o: first}.allData(), oramTold{o: second}.allData()...)
				oramTold{o: first}.spoil()
				if !sameOram(second, want) || !ownData(lists) {
					t.Fatalf("%s: results share memory", what)
				}
			}
		}
	}
}

func TestOramNewIsValid(t *testing.T) {
	for log := range impl.MaxLog + 1 {
		for _, width := range []int{1, 2, 100, 199, 200} {
			for _, bound := range []int{0, 1, 63, 64} {
				what := fmt.Sprintf("OramNew(%d, %d, %d)", log, width, bound)
				o := impl.OramNew(log, width, bound)
				wantOram(t, what, o, true)
				if list := impl.OramBlocks(o); len(list) != 0 {
					t.Errorf("%s has the blocks %v", what, list)
				}
			}
		}
	}
	failOram(t, "the zero value", impl.Oram{})
	failOram(t, "log 7", impl.OramNew(7, 1, 1))
}

// TestOramOkOfNumbers changes one of the numbers of an Oram with blocks, and of one without.
func TestOramOkOfNumbers(t *testing.T) {
	for _, o := range []impl.Oram{baseOram(), oramOf(2, 2, 4, nil), touched(baseOram(), 20), touched(oramOf(2, 2, 4, nil), 20)} {
		for _, log := range allLogs() {
			other := copyOram(o)
			if other.Log = log; log == 2 {
				wantOram(t, "Log", other, true)
			} else {
				failOram(t, fmt.Sprintf("Log %d", log), other)
			}
		}
		for _, width := range someWidths() {
			other := copyOram(o)
			if other.Width = width; width == 2 {
				wantOram(t, "Width", other, true)
			} else {
				failOram(t, fmt.Sprintf("Width %d", width), other)
			}
		}
		for _, bound := range append([]int{-2, -1, 0, 1, 2, 3, 4, 5, 63, 64, 65, 66, 128}, farInts()...) {
			other := copyOram(o)
			if other.Bound = bound; bound >= len(o.Stash) && bound <= 64 {
				wantOram(t, "Bound", other, true)
			} else {
				failOram(t, fmt.Sprintf("Bound %d", bound), other)
			}
		}
		for _, size := range append([]int{-1, 0, 1, 2, 8, 16, 19, 21, 24, 40}, farInts()...) {
			other := copyOram(o)
			other.Mem.Size = size
			failOram(t, fmt.Sprintf("Size %d", size), other)
		}
	}
}

// TestOramOkOfOtherTrees has Orams that are valid but for the tree or the width, to which neither the memory nor the Stash belongs.
func TestOramOkOfOtherTrees(t *testing.T) {
	for log := range impl.MaxLog + 1 {
		for other := -1; other <= impl.MaxLog+1; other++ {
			for _, width := range []int{1, 2, 200} {
				for _, more := range []int{0, 1, -1} {
					o := oramOf(log, width, 1, nil)
					o.Log, o.Width = other, width+more
					if other == log && more == 0 {
						wantOram(t, "the same", o, true)
					} else {
						failOram(t, fmt.Sprintf("Log %d, Width %d, the memory of %d, %d", other, width+more, log, width), o)
					}
				}
			}
		}
	}
	// The cells of a memory of another Width can be nodes of this one if they have as many bytes, which they don't.
	o := oramOf(0, 1, 0, nil)
	o.Mem = impl.MemNew(1, 20)
	failOram(t, "a greater cell", o)
	o.Mem = impl.MemNew(1, 12)
	failOram(t, "a smaller cell", o)
}

// TestOramOkOfMemory has memories that are not valid by themselves, and valid ones that are not those of the tree.
func TestOramOkOfMemory(t *testing.T) {
	for _, base := range []impl.Oram{touched(baseOram(), 5), touched(oramOf(2, 2, 0, nil), 5)} {
		for n := range 20 {
			o := copyOram(base)
			o.Mem.Log = nil
			for len(o.Mem.Cells) < n {
				o.Mem.Cells = append(o.Mem.Cells, impl.Cell{Data: make([]byte, 20)})
			}
			if o.Mem.Cells = o.Mem.Cells[:n]; n == 7 {
				wantOram(t, "7 cells", o, true)
			} else {
				failOram(t, fmt.Sprintf("%d cells", n), o)
			}
		}
		for at := range 7 {
			for _, size := range []int{0, 1, 16, 19, 21, 24, 40} {
				o := copyOram(base)
				o.Mem.Cells[at].Data = append(o.Mem.Cells[at].Data, make([]byte, 40)...)[:size]
				failOram(t, fmt.Sprintf("cell %d has %d bytes", at, size), o)
			}
		}
		for i, m := range notValid(base.Mem) {
			o := copyOram(base)
			o.Mem = m
			failOram(t, fmt.Sprintf("the memory %d", i), o)
		}
		for at := range 5 {
			for _, touch := range []impl.Touch{{Op: 0, Len: 20}, {Op: 3, Len: 20}, {Op: 1, Addr: -1, Len: 20}, {Op: 1, Addr: 7, Len: 20}, {Op: 2, Len: 19}, {Op: 2, Len: 21}, {}} {
				o := copyOram(base)
				o.Mem.Log[at] = touch
				failOram(t, fmt.Sprintf("the access %v", touch), o)
			}
		}
		for _, n := range []int{0, 1, 5999, 6000} {
			wantOram(t, fmt.Sprintf("%d accesses", n), touched(base, n), true)
		}
		failOram(t, "6001 accesses", touched(base, 6001))
		failOram(t, "7000 accesses", touched(base, 7000))
	}
}

// TestOramOkOfNodes has cells that are no node, and blocks that are not on their paths.
func TestOramOkOfNodes(t *testing.T) {
	paths := treePaths[2]
	for at := range 7 {
		for _, b := range []int{0, 2, 3, 128, 255} {
			o := baseOram()
			if o.Mem.Cells[at].Data[0] == 1 {
				o.Mem.Cells[at].Data[0] = byte(b)
				failOram(t, fmt.Sprintf("cell %d begins with %d", at, b), o)
			}
		}
		for i := range 20 {
			o := oramOf(2, 2, 4, nil)
			o.Mem.Cells[at].Data[i] = 1
			// Only a block of its own can begin with 1 in an empty node: block 0 of the leaf 0.
			if i == 0 && slices.Contains(paths[0], at+1) {
				wantOram(t, "block 0", o, true)
			} else {
				failOram(t, fmt.Sprintf("cell %d, byte %d", at, i), o)
			}
		}
		for leaf := range 6 {
			o := oramOf(2, 2, 4, nil, blockOf(9, 3, 9, 9))
			o.Mem.Cells[at].Data = modelNodeOf(nodeOf(blockOf(8, leaf, 1, 1)), 3, 2)
			what := fmt.Sprintf("the leaf %d in cell %d", leaf, at)
			if leaf < 4 && slices.Contains(paths[leaf], at+1) {
				wantOram(t, what, o, true)
			} else {
				failOram(t, what, o)
			}
		}
		for other := range 7 {
			if other != at {
				o := baseOram()
				o.Mem.Cells[at], o.Mem.Cells[other] = o.Mem.Cells[other], o.Mem.Cells[at]
				failOram(t, fmt.Sprintf("the cells %d and %d are exchanged", at, other), o)
			}
		}
	}
	for _, blocks := range [][]impl.Block{
		{blockOf(9, 0, 1, 1), blockOf(8, 0, 1, 1)}, {blockOf(9, 0, 1, 1), blockOf(9, 0, 1, 1)},
		{blockOf(1, 0, 1, 1), blockOf(2, 0, 1, 1), blockOf(3, 0, 1, 1), blockOf(3, 0, 1, 1)},
	} {
		o := oramOf(2, 2, 4, nil)
		o.Mem.Cells[0].Data = nil
		for _, b := range blocks {
			o.Mem.Cells[0].Data = append(o.Mem.Cells[0].Data, 1, byte(b.Id), byte(b.Leaf), b.Data[0], b.Data[1])
		}
		o.Mem.Cells[0].Data = append(o.Mem.Cells[0].Data, make([]byte, 20-5*len(blocks))...)
		failOram(t, fmt.Sprintf("the root has the blocks %v", blocks), o)
	}
}

func TestOramOkOfStashes(t *testing.T) {
	base := oramOf(2, 2, 64, nil)
	for n := range 131 {
		o := copyOram(base)
		o.Stash = evenStash(n, 1, 2, 2)
		if n <= 64 {
			wantOram(t, fmt.Sprintf("%d blocks", n), o, true)
		} else {
			failOram(t, fmt.Sprintf("%d blocks", n), o)
		}
		for _, bound := range []int{n - 1, n, n + 1} {
			if o.Bound = bound; bound >= n && bound <= 64 {
				wantOram(t, fmt.Sprintf("%d blocks, Bound %d", n, bound), o, true)
			} else {
				failOram(t, fmt.Sprintf("%d blocks, Bound %d", n, bound), o)
			}
		}
	}
	bad := badBlocks(5)
	bad["Id -1"], bad["Id 256"] = blockOf(-1, 0, 1, 2), blockOf(256, 0, 1, 2)
	for what, b := range bad {
		for _, stash := range [][]impl.Block{{b}, {blockOf(1, 0, 1, 1), b}, {b, blockOf(255, 3, 1, 1)}} {
			o := copyOram(base)
			o.Stash = stash
			failOram(t, what, o)
		}
	}
	for _, ids := range [][]int{{1, 1}, {2, 1}, {0, 0}, {1, 2, 2}, {1, 3, 2}, {2, 2, 3}, {3, 2, 4}, {5, 6, 7, 5}} {
		o := copyOram(base)
		o.Log, o.Width = 0, 1
		o.Mem = impl.MemNew(1, 16)
		o.Stash = stashOf(ids...)
		failOram(t, fmt.Sprintf("the Ids %v", ids), o)
	}
}

// TestOramOkOfIdsTwice has one Id in any two places.
func TestOramOkOfIdsTwice(t *testing.T) {
	for log := range 4 {
		count := modelNodes(treePaths[log])
		leafOf := func(at int) int {
			first, _ := modelLeaves(treePaths[log], at+1)
			return max(first, 0)
		}
		for at := range count + 1 {
			for other := range at {
				for _, id := range []int{0, 1, 77, 255} {
					for _, more := range []int{0, 1} {
						nodes := make([][]impl.Block, count+1)
						nodes[other] = append(nodes[other], blockOf(id, leafOf(other), 1))
						nodes[at] = append(nodes[at], blockOf((id+more)%256, leafOf(at), 1))
						what := fmt.Sprintf("log %d: Ids %d and %d in the places %d and %d", log, id, id+more, other, at)
						o := oramOf(log, 1, 1, nodes[:count], nodes[count]...)
						if more == 0 {
							failOram(t, what, o)
						} else {
							wantOram(t, what, o, true)
						}
					}
				}
			}
		}
	}
}

// TestOramBlocksOfMany has Orams with all Ids, and drawn ones.
func TestOramBlocksOfMany(t *testing.T) {
	r := rand.New(rand.NewPCG(209, 210))
	var nodes [][]impl.Block
	for at := range 127 {
		// In a tree with 64 leaves each node has some block, the leaves have two more, and all Ids are there but those from 254 on.
		first, _ := modelLeaves(treePaths[6], at+1)
		nodes = append(nodes, []impl.Block{blockOf(126-at, first, byte(at)), blockOf(127+at, first, byte(at))})
	}
	o := oramOf(6, 1, 64, nodes, blockOf(254, 0, 254), blockOf(255, 63, 255))
	wantOram(t, "all Ids", o, true)
	if list := impl.OramBlocks(o); !slices.Equal(idsOf(list), idsFrom(0, 256)) {
		t.Errorf("OramBlocks has the Ids %v", idsOf(list))
	}
	wantOram(t, "base", baseOram(), true)
	if list := impl.OramBlocks(baseOram()); !slices.Equal(idsOf(list), []int{0, 1, 3, 5, 7, 8, 10, 20, 30, 31, 40, 100, 101, 200, 250, 255}) {
		t.Errorf("OramBlocks has the Ids %v", idsOf(list))
	}
	for range 300 {
		log, width := r.IntN(7), 1+r.IntN(5)
		wantOram(t, "drawn", anyOram(r, log, width, r.IntN(65), r.IntN(257), anyLeaf(log)), true)
	}
	wantOram(t, "wide", anyOram(r, 6, 200, 64, 256, anyLeaf(6)), true)
}

// TestOramAccessEverywhere asks for the blocks of all places and for some that are nowhere, under each leaf, with each next leaf and some Data.
func TestOramAccessEverywhere(t *testing.T) {
	o := touched(baseOram(), 3)
	ids := append(idsOf(impl.OramBlocks(o)), 2, 9, 254)
	counts := map[int]int{}
	for leaf := range 4 {
		wantCode(t, "base", wantDummy(t, "base", o, leaf), impl.OramFine)
		for _, id := range ids {
			for next := range 4 {
				for at, lists := range [][][]byte{{nil, {}, {1}, {1, 2}, {0, 0}, {1, 2, 3}}, {nil, {255}, {1, 2}}, {nil, {}, {0}}, {nil, {1}}} {
					for _, data := range lists {
						got := wantAccess(t, "base", o, leaf, id, next, at, data)
						counts[got.code]++
						if at+len(data) > 2 && got.code != impl.OramForm {
							t.Fatalf("at %d and %d bytes: code %d", at, len(data), got.code)
						}
						if got.code == impl.OramFine {
							wantOram(t, "after an access", got.o, true)
						}
					}
				}
			}
		}
	}
	// 9 of the 14 Data fit; of the 19 Ids, 3 are nowhere, 5 in the root or the Stash, 4 in inner nodes and 7 in leaves.
	if counts[impl.OramFine] != 4*9*(4*8+2*4+7) || counts[impl.OramLost] != 4*9*(2*4+3*7) || counts[impl.OramForm] != 4*5*4*19 {
		t.Errorf("the codes are %v", counts)
	}
}

// TestOramAccessData has Data of no byte, of one and up to the end of the block, at 0, in the middle and at Width.
func TestOramAccessData(t *testing.T) {
	for _, width := range []int{1, 2, 3, 7, 199, 200} {
		old := someBytes(width, 5)
		o := oramOf(1, width, 1, [][]impl.Block{nil, {blockOf(9, 0, old...)}}, blockOf(255, 1, old...))
		for _, at := range []int{0, 1, width / 2, width - 1, width} {
			for _, n := range []int{0, 1, 2, width - at - 1, width - at} {
				data := someBytes(max(n, 0), 6)
				fits := at+len(data) <= width
				for _, id := range []int{9, 255, 0} {
					got := wantAccess(t, "data", o, 0, id, 1, at, data)
					if !fits {
						wantCode(t, "data that is too long", got, impl.OramForm)
						continue
					}
					was := make([]byte, width)
					if id != 0 {
						was = old
					}
					now := slices.Concat(was[:at], data, was[at+len(data):])
					b, ok := impl.StashFind(impl.OramBlocks(got.o), id)
					if got.code != 0 || !bytes.Equal(got.data, was) || !ok || b.Leaf != 1 || !bytes.Equal(b.Data, now) {
						t.Fatalf("width %d, at %d, %d bytes, Id %d: code %d, %v, %v", width, at, len(data), id, got.code, got.data, b)
					}
				}
			}
		}
		for _, data := range [][]byte{nil, {}, {1}, make([]byte, width), make([]byte, width+1), make([]byte, 256+width)} {
			for _, at := range []int{-1, -2, -width, width + 1, width + 2, 200, 201, 256, math.MaxInt, math.MaxInt - 1, math.MaxInt - width, math.MinInt, math.MinInt + 1, 1 << 32, -1 << 32} {
				if at != 200 || width != 200 {
					wantCode(t, "at", wantAccess(t, "at", o, 0, 9, 1, at, data), impl.OramForm)
				}
			}
		}
		wantCode(t, "one byte too many", wantAccess(t, "data", o, 0, 9, 1, 0, make([]byte, width+1)), impl.OramForm)
	}
}

// TestOramAccessForm has each reason for OramForm that the Oram is not, by itself.
func TestOramAccessForm(t *testing.T) {
	for log := range impl.MaxLog + 1 {
		o := oramOf(log, 1, 2, nil, blockOf(3, 0, 1))
		for _, place := range allPlaces() {
			code := impl.OramForm
			if place >= 0 && place < 1<<log {
				code = impl.OramFine
			}
			if got, data, bad := impl.OramAccess(o, place, 3, 0, 0, nil); bad != code || bad != 0 && !sameTold(oramTold{o: got, data: data}, oramTold{}) {
				t.Fatalf("log %d: OramAccess with the leaf %d: code %d", log, place, bad)
			}
			if got, data, bad := impl.OramAccess(o, 0, 3, place, 0, nil); bad != code || bad != 0 && !sameTold(oramTold{o: got, data: data}, oramTold{}) {
				t.Fatalf("log %d: OramAccess with the next leaf %d: code %d", log, place, bad)
			}
			if got, bad := impl.OramDummy(o, place); bad != code || bad != 0 && !sameOram(got, impl.Oram{}) {
				t.Fatalf("log %d: OramDummy with the leaf %d: code %d", log, place, bad)
			}
		}
		for _, leaf := range []int{-1, 1 << log, 1<<log - 1} {
			wantAccess(t, "the leaf", o, leaf, 3, 0, 0, nil)
			wantAccess(t, "the next leaf", o, 0, 3, leaf, 0, nil)
			wantDummy(t, "the leaf", o, leaf)
		}
		for _, id := range someIds() {
			got := wantAccess(t, "the Id", o, 0, id, 0, 0, []byte{5})
			if ok := id >= 0 && id <= 255; ok != (got.code == impl.OramFine) {
				t.Fatalf("the Id %d: code %d", id, got.code)
			}
		}
	}
}

// TestOramAccessLost has a block in each node of a tree, of which only those of a path can be accessed.
func TestOramAccessLost(t *testing.T) {
	for log := range impl.MaxLog + 1 {
		var nodes [][]impl.Block
		for at := range modelNodes(treePaths[log]) {
			_, last := modelLeaves(treePaths[log], at+1)
			nodes = append(nodes, []impl.Block{blockOf(2*at, last, byte(at))})
		}
		o := oramOf(log, 1, 1, nodes, blockOf(255, 0, 9))
		for leaf := range 1 << log {
			for at := range nodes {
				if log > 4 && (at+leaf)%13 > 0 {
					continue
				}
				code := impl.OramLost
				if slices.Contains(treePaths[log][leaf], at+1) {
					code = impl.OramFine
				}
				wantCode(t, "one block for each node", wantAccess(t, "one block for each node", o, leaf, 2*at, leaf, 0, []byte{7}), code)
			}
			// A block of the Stash, and one that is nowhere, are not lost under any leaf.
			wantCode(t, "in the Stash", wantAccess(t, "in the Stash", o, leaf, 255, 0, 0, nil), impl.OramFine)
			wantCode(t, "nowhere", wantAccess(t, "nowhere", o, leaf, 253, 0, 0, nil), impl.OramFine)
		}
	}
}

// TestOramFull has just room for a path, and one access too few.
func TestOramFull(t *testing.T) {
	for log := range impl.MaxLog + 1 {
		for _, o := range []impl.Oram{oramOf(log, 1, 1, nil), oramOf(log, 1, 1, [][]impl.Block{{blockOf(3, 0, 1)}}, blockOf(7, 0, 1))} {
			for missing, code := range map[int]int{-3: 0, -2: 0, -1: 0, 0: 0, 1: 4, 2: 4, log + 1: 4, 2*log + 1: 4, 2*log + 2: 4} {
				o = touched(o, 6000-2*(log+1)+missing)
				wantCode(t, "OramDummy", wantDummy(t, fmt.Sprintf("%d missing", missing), o, 1<<log-1), code)
				for _, id := range []int{3, 7, 9} {
					wantCode(t, "OramAccess", wantAccess(t, fmt.Sprintf("%d missing", missing), o, 0, id, 1<<log-1, 0, nil), code)
				}
			}
		}
	}
}

// TestOramOver has Bounds that are just enough and one less.
func TestOramOver(t *testing.T) {
	for _, log := range []int{0, 1, 2, 6} {
		for bound := range impl.MaxBound + 1 {
			if log == 6 && bound%16 > 1 {
				continue
			}
			// A path of n blocks is full; all blocks have its leaf, and another one doesn't find room in the tree.
			n := 4 * (log + 1)
			list := evenStash(n+bound, 1, 0, 1)
			nodes := make([][]impl.Block, modelNodes(treePaths[log]))
			for level, node := range treePaths[log][0] {
				nodes[node-1] = list[4*level : 4*level+4]
			}
			o := oramOf(log, 1, bound, nodes, list[n:]...)
			wantOram(t, "crowded", o, true)
			for _, next := range []int{0, 1<<log - 1} {
				wantCode(t, "a new block", wantAccess(t, "crowded", o, 0, 0, next, 0, nil), impl.OramOver)
				wantCode(t, "a new block", wantAccess(t, "crowded", o, 0, 255, next, 0, []byte{1}), impl.OramOver)
			}
			wantCode(t, "a known block", wantAccess(t, "crowded", o, 0, 1, 0, 0, nil), impl.OramFine)
			wantCode(t, "no block", wantDummy(t, "crowded", o, 0), impl.OramFine)
			if bound < impl.MaxBound {
				o.Bound++
				got := wantAccess(t, "room for one", o, 0, 255, 0, 0, []byte{1})
				wantCode(t, "room for one", got, impl.OramFine)
				if len(got.o.Stash) != bound+1 {
					t.Errorf("the Stash has %d blocks", len(got.o.Stash))
				}
			}
		}
	}
	// A block that is known can be one too many under its next leaf: the other half has room in the root alone, and that is full.
	list := evenStash(4, 1, 0, 1)
	for i := range list {
		list[i].Leaf = 1
	}
	o := oramOf(1, 1, 0, [][]impl.Block{list, {blockOf(100, 0, 1)}})
	wantCode(t, "it stays at the leaf", wantAccess(t, "full root", o, 0, 100, 0, 0, nil), impl.OramFine)
	wantCode(t, "it leaves the leaf", wantAccess(t, "full root", o, 0, 100, 1, 0, nil), impl.OramOver)
	wantCode(t, "a new one for the leaf", wantAccess(t, "full root", o, 0, 101, 0, 0, nil), impl.OramFine)
	wantCode(t, "a new one for the other leaf", wantAccess(t, "full root", o, 0, 101, 1, 0, nil), impl.OramOver)
	o.Bound = 1
	wantCode(t, "it leaves the leaf", wantAccess(t, "full root", o, 0, 100, 1, 0, nil), impl.OramFine)
	// Without Bound and without blocks, four find room in one node.
	o = impl.OramNew(0, 1, 0)
	for id := range 5 {
		got := wantAccess(t, "one node", o, 0, id, 0, 0, []byte{byte(id)})
		if id == 4 {
			wantCode(t, "the fifth block", got, impl.OramOver)
		} else {
			wantCode(t, "a block", got, impl.OramFine)
			o = got.o
		}
	}
}

// TestOramCodesTogether has each pair of reasons that can apply together.
func TestOramCodesTogether(t *testing.T) {
	full := 6000 - 3
	for _, bound := range []int{0, 1, 5} {
		o := crowdedOram(bound)
		other := touched(o, full)
		none := copyOram(o)
		none.Bound = -1
		crowd := copyOram(other)
		crowd.Stash = append(crowd.Stash, blockOf(200, 0, 1))
		// The reasons apply by themselves.
		wantCode(t, "Lost", wantAccess(t, "Lost", o, 0, 100, 1, 0, nil), impl.OramLost)
		wantCode(t, "Full", wantAccess(t, "Full", other, 0, 1, 0, 0, nil), impl.OramFull)
		wantCode(t, "Full", wantDummy(t, "Full", other, 0), impl.OramFull)
		wantCode(t, "Over", wantAccess(t, "Over", o, 0, 99, 0, 0, nil), impl.OramOver)
		wantCode(t, "Form", wantAccess(t, "Form", none, 1, 100, 1, 0, nil), impl.OramForm)
		for _, one := range []impl.Oram{o, other, none, crowd} {
			for _, id := range []int{100, 99, 1, -1, 256} {
				for _, leaf := range []int{0, 1, 2, -1} {
					for _, next := range []int{0, 1, 2, -1} {
						for at, data := range [][]byte{{1}, {1}, nil} {
							wantAccess(t, "together", one, leaf, id, next, at, data)
						}
					}
					wantDummy(t, "together", one, leaf)
				}
			}
		}
		wantCode(t, "Form and Lost", wantAccess(t, "Form and Lost", o, 0, 100, 2, 0, nil), impl.OramForm)
		wantCode(t, "Form and Lost", wantAccess(t, "Form and Lost", o, 0, 100, 1, 1, []byte{1}), impl.OramForm)
		wantCode(t, "Form and Lost", wantAccess(t, "Form and Lost", o, 0, 100, 1, -1, nil), impl.OramForm)
		wantCode(t, "Form and Lost", wantAccess(t, "Form and Lost", none, 0, 100, 1, 0, nil), impl.OramForm)
		wantCode(t, "Form and Full", wantAccess(t, "Form and Full", other, 2, 1, 0, 0, nil), impl.OramForm)
		wantCode(t, "Form and Full", wantAccess(t, "Form and Full", other, 0, 256, 0, 0, nil), impl.OramForm)
		wantCode(t, "Form and Full", wantDummy(t, "Form and Full", other, 2), impl.OramForm)
		wantCode(t, "Form and Full", wantDummy(t, "Form and Full", crowd, 0), impl.OramForm)
		wantCode(t, "Form and Over", wantAccess(t, "Form and Over", o, 0, 99, 0, 0, []byte{1, 2}), impl.OramForm)
		wantCode(t, "Form and Over", wantAccess(t, "Form and Over", o, 0, 99, -1, 0, nil), impl.OramForm)
		wantCode(t, "Lost and Full", wantAccess(t, "Lost and Full", other, 0, 100, 1, 0, nil), impl.OramLost)
		// A lost block would be one too many on the path.
		wantCode(t, "Lost and Over", wantAccess(t, "Lost and Over", o, 0, 100, 0, 0, nil), impl.OramLost)
		wantCode(t, "Full and Over", wantAccess(t, "Full and Over", other, 0, 99, 0, 0, nil), impl.OramFull)
		wantCode(t, "all", wantAccess(t, "all", crowd, 0, 100, 2, 9, []byte{1}), impl.OramForm)
		wantCode(t, "Lost, Full and Over", wantAccess(t, "Lost, Full and Over", other, 0, 100, 0, 0, nil), impl.OramLost)
	}
}

// TestOramOfManyDrawn compares accesses to drawn Orams of all trees with the model.
func TestOramOfManyDrawn(t *testing.T) {
	r := rand.New(rand.NewPCG(211, 212))
	counts := map[int]int{}
	for log := range impl.MaxLog + 1 {
		for i := range 400 {
			width, leaf := 1+r.IntN(3), r.IntN(1<<log)
			leafOf := leafDraws(log, leaf)[i%6]
			bound := []int{0, 1, 3, 8, 64}[r.IntN(5)]
			o := anyOram(r, log, width, bound, []int{0, 3, 20, 60, 200}[r.IntN(5)], leafOf)
			if i%50 == 0 {
				o = touched(o, 6000-2*(log+1)-1+r.IntN(3))
			}
			wantCode(t, "drawn", wantDummy(t, "drawn", touched(o, r.IntN(5)), leaf), impl.OramFine)
			id := r.IntN(256)
			if blocks := impl.OramBlocks(o); len(blocks) > 0 && r.IntN(4) > 0 {
				// Mostly one of the Stash or of the path, as far as there is one.
				b := blocks[r.IntN(len(blocks))]
				if id = b.Id; r.IntN(3) > 0 {
					leaf = b.Leaf
				}
			}
			next := leafOf(r)
			at := r.IntN(width + 1)
			got := wantAccess(t, "drawn", o, leaf, id, next, at, anyData(r, r.IntN(width-at+1)))
			counts[got.code]++
			if got.code == impl.OramFine {
				wantOram(t, "drawn", got.o, true)
			}
		}
	}
	for _, code := range []int{0, 2, 3, 4} {
		if counts[code] < 5 {
			t.Errorf("the codes are %v", counts)
		}
	}
}

// TestOramOfTheGreatestTree has blocks of the greatest width in all nodes, and the longest log that takes one more path.
func TestOramOfTheGreatestTree(t *testing.T) {
	r := rand.New(rand.NewPCG(213, 214))
	for range 5 {
		o := touched(anyOram(r, 6, 200, 64, 256, anyLeaf(6)), 6000-14)
		leaf := r.IntN(64)
		wantCode(t, "the greatest tree", wantDummy(t, "the greatest tree", o, leaf), impl.OramFine)
		wantCode(t, "the greatest tree", wantAccess(t, "the greatest tree", oramOf(6, 200, 64, nil, o.Stash...), leaf, 255, 63, 100, make([]byte, 100)), impl.OramFine)
		wantAccess(t, "the greatest tree", o, leaf, r.IntN(256), 63, 199, []byte{1})
	}
}

// anyOps draws operations on n blocks, with Data that fits, and their draws.
func anyOps(r *rand.Rand, count int, n int, width int) ([]impl.OramOp, []int) {
	var ops []impl.OramOp
	var draws []int
	for range count {
		op := impl.OramOp{Id: r.IntN(n+1) - 1}
		if op.Id >= 0 && r.IntN(3) > 0 {
			op.At = r.IntN(width + 1)
			op.Data = anyData(r, r.IntN(width-op.At+1))
		}
		ops, draws = append(ops, op), append(draws, r.IntN(65536))
	}
	return ops, draws
}

// oramTouches returns the accesses to the paths of some leaves: the reads from the root to the leaf, then the writes from the leaf to the root.
func oramTouches(log int, width int, leaves []int) []impl.Touch {
	var touches []impl.Touch
	for _, leaf := range leaves {
		path := treePaths[log][leaf]
		for _, node := range path {
			touches = append(touches, impl.Touch{Op: impl.TouchRead, Addr: node - 1, Len: 4*width + 12})
		}
		for i := range path {
			touches = append(touches, impl.Touch{Op: impl.TouchWrite, Addr: path[log-i] - 1, Len: 4*width + 12})
		}
	}
	return touches
}

func TestOramPlayLengths(t *testing.T) {
	r := rand.New(rand.NewPCG(215, 216))
	for _, log := range []int{0, 2, 6} {
		for _, count := range []int{0, 1, 2, 127, 128, 129, 130, 300} {
			for _, n := range []int{0, 1, 2, 255, 256, 257, 258, 400} {
				o := impl.OramNew(log, 2, 64)
				pos := make([]int, n)
				for i := range pos {
					pos[i] = r.IntN(1 << log)
				}
				ops, draws := anyOps(r, count, min(n, 20), 2)
				got := wantPlay(t, "lengths", o, pos, ops, draws)
				if count > 128 || n > 256 {
					wantCode(t, "too many operations or leaves", got, impl.OramForm)
				} else if wantCode(t, "lengths", got, impl.OramFine); len(got.pos) != n || len(got.o.Mem.Log) != count*2*(log+1) {
					t.Errorf("%d leaves, and %d accesses", len(got.pos), len(got.o.Mem.Log))
				}
				for _, other := range []int{0, count - 1, count + 1, 2 * count, 129} {
					if other >= 0 && other != count {
						wantCode(t, "the number of draws", wantPlay(t, "draws", o, pos, ops, append(slices.Clone(draws), make([]int, 300)...)[:other]), impl.OramForm)
					}
				}
			}
		}
	}
	// Each of the last Ids can be asked for.
	got := wantPlay(t, "MaxId", impl.OramNew(0, 1, 0), make([]int, 256), []impl.OramOp{{Id: 255, Data: []byte{7}}, {Id: 255}}, []int{1, 2})
	if !sameCells(got.cells, []impl.Cell{{Data: []byte{0}}, {Data: []byte{7}}}) {
		t.Errorf("the bytes are %v", got.cells)
	}
}

// TestOramPlayForm has each reason for OramForm by itself, at each place.
func TestOramPlayForm(t *testing.T) {
	o := touched(baseOram(), 2)
	pos := make([]int, 9)
	pos[7], pos[0], pos[5] = 2, 3, 1
	ops := []impl.OramOp{{Id: -1}, {Id: 7, At: 1, Data: []byte{1}}, {Id: 3}, {Id: -1}, {Id: 8, Data: []byte{1, 2}}, {Id: 0}}
	draws := []int{0, 65535, 4, 7, 9, 65534}
	wantCode(t, "fine", wantPlay(t, "fine", o, pos, ops, draws), impl.OramFine)
	form := func(what string, o impl.Oram, pos []int, ops []impl.OramOp, draws []int) {
		t.Helper()
		wantCode(t, what, wantPlay(t, what, o, pos, ops, draws), impl.OramForm)
	}
	other := copyOram(o)
	other.Bound = 2
	form("no Oram", other, pos, ops, draws)
	form("no Oram", other, nil, nil, nil)
	form("257 leaves", o, append(slices.Clone(pos), make([]int, 248)...), ops, draws)
	form("a draw too few", o, pos, ops, draws[:5])
	form("a draw too many", o, pos, ops, append(slices.Clone(draws), 0))
	form("draws without operations", o, pos, nil, draws)
	form("operations without draws", o, pos, ops, nil)
	for i := range pos {
		for _, leaf := range append([]int{-2, -1, 4, 5, 63, 64}, farInts()...) {
			bad := slices.Clone(pos)
			bad[i] = leaf
			form(fmt.Sprintf("the leaf %d", leaf), o, bad, ops, draws)
			form(fmt.Sprintf("the leaf %d without operations", leaf), o, bad, nil, nil)
		}
	}
	for i := range ops {
		for _, id := range append([]int{-3, -2, 9, 10, 255, 256}, farInts()...) {
			bad := copyOps(ops)
			bad[i].Id = id
			form(fmt.Sprintf("the Id %d", id), o, pos, bad, draws)
		}
		for _, draw := range []int{-1, -2, 65536, 65537, math.MinInt, math.MaxInt, 1 << 32} {
			bad := slices.Clone(draws)
			bad[i] = draw
			form(fmt.Sprintf("the draw %d", draw), o, pos, ops, bad)
		}
	}
	form("no leaves", o, nil, ops, draws)
	form("one leaf less", o, pos[:8], ops, draws)
	wantCode(t, "dummies need no leaves", wantPlay(t, "dummies", o, nil, []impl.OramOp{{Id: -1}, {Id: -1}}, []int{3, 0}), impl.OramFine)
}

// TestOramPlayDummies has At and Data that fit no block, in operations that have none.
func TestOramPlayDummies(t *testing.T) {
	o := baseOram()
	for _, at := range []int{0, -1, 1, 2, 3, 200, math.MinInt, math.MaxInt} {
		for _, data := range [][]byte{nil, {1}, make([]byte, 300)} {
			got := wantPlay(t, "dummies", o, []int{1}, []impl.OramOp{{Id: -1, At: at, Data: data}, {Id: -1}}, []int{5, 6})
			wantCode(t, "dummies", got, impl.OramFine)
			if len(got.cells) != 0 || !slices.Equal(got.pos, []int{1}) || !slices.Equal(got.o.Mem.Log, oramTouches(2, 2, []int{1, 2})) {
				t.Errorf("%v, %v, %s", got.cells, got.pos, impl.TouchText(got.o.Mem.Log))
			}
		}
	}
}

// TestOramPlayFails has operations of which one fails, after others that don't.
func TestOramPlayFails(t *testing.T) {
	crowded := crowdedOram(1)
	fine, lost, over, form := impl.OramOp{Id: 1}, impl.OramOp{Id: 100}, impl.OramOp{Id: 99}, impl.OramOp{Id: 1, At: 1, Data: []byte{1}}
	long := impl.OramOp{Id: 1, Data: []byte{1, 2}}
	dummy := impl.OramOp{Id: -1, At: -1}
	pos := make([]int, 101)
	codes := []struct {
		o    impl.Oram
		ops  []impl.OramOp
		code int
	}{
		{crowded, []impl.OramOp{fine, dummy, fine}, impl.OramFine},
		{crowded, []impl.OramOp{lost}, impl.OramLost},
		{crowded, []impl.OramOp{over}, impl.OramOver},
		{crowded, []impl.OramOp{form}, impl.OramForm},
		{crowded, []impl.OramOp{long}, impl.OramForm},
		{crowded, []impl.OramOp{{Id: 1, At: -1}}, impl.OramForm},
		{crowded, []impl.OramOp{{Id: 1, At: 2}}, impl.OramForm},
		{crowded, []impl.OramOp{{Id: 1, At: math.MaxInt, Data: []byte{1}}}, impl.OramForm},
		{crowded, []impl.OramOp{fine, dummy, lost, over, form}, impl.OramLost},
		{crowded, []impl.OramOp{dummy, over, lost, form}, impl.OramOver},
		{crowded, []impl.OramOp{fine, form, lost, over}, impl.OramForm},
		{crowded, []impl.OramOp{fine, lost, fine, fine}, impl.OramLost},
		{crowded, []impl.OramOp{fine, fine, over, fine}, impl.OramOver},
		{crowded, []impl.OramOp{fine, fine, fine, long}, impl.OramForm},
		// A reason that is found before any operation comes first.
		{crowded, []impl.OramOp{lost, over, {Id: 101}}, impl.OramForm},
		{crowded, []impl.OramOp{lost, over, {Id: -2}}, impl.OramForm},
		{touched(crowded, 6000-12), []impl.OramOp{fine, dummy, fine}, impl.OramFine},
		{touched(crowded, 6000-12), []impl.OramOp{fine, dummy, fine, dummy}, impl.OramFull},
		{touched(crowded, 6000-11), []impl.OramOp{fine, dummy, fine}, impl.OramFull},
		{touched(crowded, 6000-11), []impl.OramOp{fine, dummy, dummy}, impl.OramFull},
		{touched(crowded, 6000-4), []impl.OramOp{dummy, lost, fine}, impl.OramLost},
		{touched(crowded, 6000-4), []impl.OramOp{dummy, form, fine}, impl.OramForm},
		{touched(crowded, 6000-4), []impl.OramOp{dummy, over, form}, impl.OramFull},
		{touched(crowded, 6000), []impl.OramOp{dummy}, impl.OramFull},
		{touched(crowded, 6000), nil, impl.OramFine},
	}
	for i, c := range codes {
		what := fmt.Sprintf("case %d", i)
		wantCode(t, what, wantPlay(t, what, c.o, pos, c.ops, make([]int, len(c.ops))), c.code)
	}
	// Under its new leaf the block is found again, and under the old one it would be lost.
	o := impl.OramNew(1, 1, 0)
	got := wantPlay(t, "leaves", o, []int{0}, []impl.OramOp{{Id: 0, Data: []byte{1}}, {Id: 0}, {Id: 0}, {Id: -1}, {Id: 0}}, []int{1, 0, 65535, 0, 65534})
	wantCode(t, "leaves", got, impl.OramFine)
	if !slices.Equal(got.pos, []int{0}) || !slices.Equal(got.o.Mem.Log, oramTouches(1, 1, []int{0, 1, 0, 0, 1})) {
		t.Errorf("%v, %s", got.pos, impl.TouchText(got.o.Mem.Log))
	}
	// For a block with a wrong leaf that is still in the root or the Stash it makes no difference.
	o = oramOf(1, 1, 1, [][]impl.Block{{blockOf(0, 1, 5)}}, blockOf(1, 1, 6))
	got = wantPlay(t, "wrong leaves", o, []int{0, 0}, []impl.OramOp{{Id: 0}, {Id: 1}}, []int{0, 0})
	if !sameCells(got.cells, []impl.Cell{{Data: []byte{5}}, {Data: []byte{6}}}) {
		t.Errorf("the bytes are %v", got.cells)
	}
}

// TestOramPlayOfNothing returns a copy of the Oram and of the leaves.
func TestOramPlayOfNothing(t *testing.T) {
	r := rand.New(rand.NewPCG(217, 218))
	for _, o := range []impl.Oram{impl.OramNew(0, 1, 0), baseOram(), touched(baseOram(), 6000), crowdedOram(64), anyOram(r, 6, 3, 64, 256, anyLeaf(6))} {
		for _, pos := range [][]int{nil, {}, {0}, make([]int, 256)} {
			got := wantPlay(t, "nothing", o, pos, nil, nil)
			if got.code != 0 || !sameOram(got.o, o) || !slices.Equal(got.pos, pos) || len(got.cells) != 0 {
				t.Errorf("OramPlay of no operation: %s", oneFlaw(got, oramTold{o: o, pos: pos}))
			}
		}
	}
}

// TestOramIsAnArray holds drawn plays against an array of blocks and against the paths to which they must go, operation by operation.
func TestOramIsAnArray(t *testing.T) {
	r := rand.New(rand.NewPCG(219, 220))
	for i := range 60 {
		log, width, n := i%7, 1+r.IntN(4), 1+r.IntN(30)
		count := []int{1, 20, 128}[r.IntN(3)]
		o := impl.OramNew(log, width, 64)
		pos := make([]int, n)
		for id := range pos {
			pos[id] = r.IntN(1 << log)
		}
		ops, draws := anyOps(r, count, n, width)
		array, leaves, last := make([][]byte, n), []int{}, slices.Clone(pos)
		there := map[int]int{}
		var told []impl.Cell
		for i, op := range ops {
			next := draws[i] % (1 << log)
			if op.Id < 0 {
				leaves = append(leaves, next)
			} else {
				leaves = append(leaves, last[op.Id])
				last[op.Id], there[op.Id] = next, 1
				told = append(told, impl.Cell{Data: append(bytes.Clone(array[op.Id]), make([]byte, width-len(array[op.Id]))...)})
				array[op.Id] = bytes.Clone(told[len(told)-1].Data)
				copy(array[op.Id][op.At:], op.Data)
			}
			// Whoever stops here finds the blocks of the array, all under the leaves that pos has then.
			after, at, cells, code := impl.OramPlay(o, pos, ops[:i+1], draws[:i+1])
			if code != impl.OramFine || !slices.Equal(at, last) || !sameCells(cells, told) || !impl.OramOk(after) {
				t.Fatalf("log %d, after %d operations: code %d, %v, %v, want %v, %v", log, i+1, code, at, cells, last, told)
			}
			if !slices.Equal(after.Mem.Log, oramTouches(log, width, leaves)) {
				t.Fatalf("log %d: the access log is %s, and the leaves are %v", log, impl.TouchText(after.Mem.Log), leaves)
			}
			list := impl.OramBlocks(after)
			for _, b := range list {
				if there[b.Id] == 0 || b.Leaf != last[b.Id] || !bytes.Equal(b.Data, array[b.Id]) {
					t.Fatalf("log %d, after %d operations: the block %v, want the leaf %d and %v", log, i+1, b, last[b.Id], array[b.Id])
				}
			}
			if len(list) != len(there) {
				t.Fatalf("log %d, after %d operations: %d blocks, not %d", log, i+1, len(list), len(there))
			}
		}
		wantPlay(t, "an array", o, pos, ops, draws)
	}
}

// TestOramPlayIsAccesses makes the same operations one by one, also when one of them fails.
func TestOramPlayIsAccesses(t *testing.T) {
	r := rand.New(rand.NewPCG(221, 222))
	counts := map[int]int{}
	for range 300 {
		log, width := r.IntN(4), 1+r.IntN(3)
		o := anyOram(r, log, width, []int{r.IntN(12), 64, 64}[r.IntN(3)], 30, anyLeaf(log))
		pos := make([]int, 256)
		for _, b := range impl.OramBlocks(o) {
			pos[b.Id] = b.Leaf
		}
		ops, draws := anyOps(r, 1+r.IntN(30), []int{20, 256}[r.IntN(2)], width)
		switch r.IntN(6) {
		case 0:
			for id := range pos {
				pos[id] = r.IntN(1 << log)
			}
		case 1:
			ops[r.IntN(len(ops))].At = r.IntN(5) - 1
		case 2:
			o = touched(o, 6000-2*(log+1)*r.IntN(30))
		}
		got := wantPlay(t, "drawn", o, pos, ops, draws)
		counts[got.code]++
		one, at, code := o, slices.Clone(pos), 0
		var cells []impl.Cell
		for i, op := range ops {
			next := impl.LeafOf(draws[i], log)
			if op.Id < 0 {
				one, code = impl.OramDummy(one, next)
			} else {
				var data []byte
				one, data, code = impl.OramAccess(one, at[op.Id], op.Id, next, op.At, op.Data)
				at[op.Id] = next
				cells = append(cells, impl.Cell{Data: data})
			}
			if code != 0 {
				at, cells = nil, nil
				break
			}
		}
		if want := (oramTold{o: one, pos: at, cells: cells, code: code}); !sameTold(got, want) {
			t.Fatalf("one by one: %s", oneFlaw(got, want))
		}
	}
	for code := range 5 {
		if counts[code] < 3 {
			t.Errorf("the codes are %v", counts)
		}
	}
}

// TestOramOfSharedData has lists of bytes in the arguments that share memory; those of the results have their own.
func TestOramOfSharedData(t *testing.T) {
	data := []byte{1, 2}
	zero := make([]byte, 20)
	o := oramOf(2, 2, 4, nil, blockOf(1, 0), blockOf(2, 1), blockOf(3, 2), blockOf(4, 3))
	for i := range o.Mem.Cells {
		o.Mem.Cells[i].Data = zero
	}
	for i := range o.Stash {
		o.Stash[i].Data = data
	}
	before := copyOram(o)
	results := []oramTold{}
	for leaf := range 4 {
		for _, id := range []int{1, 2, 3, 4, 9} {
			after, old, code := impl.OramAccess(o, leaf, id, 3-leaf, 0, data)
			results = append(results, oramTold{o: after, data: old, code: code})
		}
		after, code := impl.OramDummy(o, leaf)
		results = append(results, oramTold{o: after, code: code})
		after, at, cells, code := impl.OramPlay(o, []int{0, 0, 1, 2, 3}, []impl.OramOp{{Id: 1, Data: data}, {Id: 1, Data: data}, {Id: 0}, {Id: 0}}, []int{1, leaf, 2, 3})
		results = append(results, oramTold{o: after, pos: at, cells: cells, code: code})
		after, at, cells, code = impl.OramPlay(o, nil, nil, nil)
		results = append(results, oramTold{o: after, pos: at, cells: cells, code: code})
	}
	lists := [][]byte{data, zero}
	for _, got := range results {
		if got.code != impl.OramFine {
			t.Fatalf("code %d", got.code)
		}
		if model := modelOramOk(got.o); !model {
			t.Fatalf("%v is not valid", got.o)
		}
		lists = append(lists, got.allData()...)
	}
	if !sameOram(o, before) {
		t.Fatal("the Oram is modified")
	}
	if !ownData(lists) {
		t.Fatal("lists of bytes share memory")
	}
}

// TestOramKeepsNothing asks for anything in any order.
func TestOramKeepsNothing(t *testing.T) {
	r := rand.New(rand.NewPCG(223, 224))
	for range 4000 {
		log, width := r.IntN(4), 1+r.IntN(3)
		o := anyOram(r, log, width, r.IntN(9), r.IntN(20), anyLeaf(log))
		if r.IntN(5) == 0 {
			o.Width += r.IntN(2)
			o.Bound -= r.IntN(2)
			if cell := o.Mem.Cells[r.IntN(len(o.Mem.Cells))]; r.IntN(2) == 0 {
				cell.Data[r.IntN(5)]++
			}
		}
		leaf, next := r.IntN(1<<log+1), r.IntN(1<<log)
		switch r.IntN(4) {
		case 0:
			wantOram(t, "any", o, modelOramOk(o))
		case 1:
			wantAccess(t, "any", o, leaf, r.IntN(258)-1, next, r.IntN(width+2)-1, anyData(r, r.IntN(3)))
		case 2:
			wantDummy(t, "any", o, leaf)
		default:
			pos := make([]int, r.IntN(20))
			for id := range pos {
				pos[id] = r.IntN(1 << log)
			}
			ops, draws := anyOps(r, r.IntN(9), len(pos), width)
			wantPlay(t, "any", o, pos, ops, draws)
		}
	}
}
