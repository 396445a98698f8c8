package tests

import (
	"bytes"
	"fmt"
	"math"
	"math/rand/v2"
	"testing"

	"loop.example/g00663/impl"
)

func blockOf(id int, leaf int, data ...byte) impl.Block {
	return impl.Block{Id: id, Leaf: leaf, Data: data}
}

func nodeOf(blocks ...impl.Block) impl.Node {
	return impl.Node{Blocks: blocks}
}

func sameBlock(a impl.Block, b impl.Block) bool {
	return a.Id == b.Id && a.Leaf == b.Leaf && bytes.Equal(a.Data, b.Data)
}

func sameBlocks(a []impl.Block, b []impl.Block) bool {
	for i := range min(len(a), len(b)) {
		if !sameBlock(a[i], b[i]) {
			return false
		}
	}
	return len(a) == len(b)
}

func copyBlocks(list []impl.Block) []impl.Block {
	var result []impl.Block
	for _, b := range list {
		result = append(result, blockOf(b.Id, b.Leaf, bytes.Clone(b.Data)...))
	}
	return result
}

// spoilBlocks overwrites the blocks, their Data and what is behind their lengths.
func spoilBlocks(list []impl.Block) {
	list = list[:cap(list)]
	for i := range list {
		spoilBytes(list[i].Data)
		list[i] = blockOf(-9, -9)
	}
}

// modelBlockOk is the document's rule for a valid block, with the leaves of the trees written out.
func modelBlockOk(b impl.Block, log int, width int) bool {
	leaves := map[int]int{0: 1, 1: 2, 2: 4, 3: 8, 4: 16, 5: 32, 6: 64}
	return 0 < width && width < 201 && 0 <= b.Id && b.Id < 256 && 0 <= b.Leaf && b.Leaf < leaves[log] && len(b.Data) == width
}

// modelBlocksOk is the document's rule for valid blocks: log and width, each block, and each pair of blocks.
func modelBlocksOk(list []impl.Block, log int, width int) bool {
	ok := 0 <= log && log < 7 && 0 < width && width < 201
	for i := range list {
		ok = ok && modelBlockOk(list[i], log, width)
		for j := range i {
			ok = ok && list[j].Id < list[i].Id
		}
	}
	return ok
}

func modelNodeOk(n impl.Node, log int, width int) bool {
	return len(n.Blocks) < 5 && modelBlocksOk(n.Blocks, log, width)
}

// modelNodeOf writes the bytes of a node one after another, or none if it is not valid.
func modelNodeOf(n impl.Node, log int, width int) []byte {
	if !modelNodeOk(n, log, width) {
		return nil
	}
	var data []byte
	for _, b := range n.Blocks {
		data = append(data, 1, byte(b.Id), byte(b.Leaf))
		for _, one := range b.Data {
			data = append(data, one)
		}
	}
	for len(data) < 12+4*width {
		data = append(data, 0)
	}
	return data
}

// modelNodeRead finds the node of which data is the NodeOf by the meaning of each byte, and whether there is one.
func modelNodeRead(data []byte, log int, width int) (impl.Node, bool) {
	if width < 1 || width > 200 || len(data) != 12+4*width {
		return impl.Node{}, false
	}
	var n impl.Node
	free := false
	for at := 0; at < len(data); at += 3 + width {
		slot := data[at : at+3+width]
		switch {
		case slot[0] == 1 && !free:
			n.Blocks = append(n.Blocks, blockOf(int(slot[1]), int(slot[2]), bytes.Clone(slot[3:])...))
		case bytes.Equal(slot, make([]byte, 3+width)):
			free = true
		default:
			return impl.Node{}, false
		}
	}
	if !modelBlocksOk(n.Blocks, log, width) {
		return impl.Node{}, false
	}
	return n, true
}

// someIds are numbers within and around 0..MaxId, and the far ones.
func someIds() []int {
	return append([]int{-2, -1, 0, 1, 2, 127, 128, 254, 255, 256, 257, 511, 512}, farInts()...)
}

// someWidths are widths within and around 1..MaxWidth and the far ones, with those for which 4 * (width + 3) is
// 0 or small in 64 bits.
func someWidths() []int {
	return append([]int{-5, -4, -3, -2, -1, 0, 1, 2, 3, 199, 200, 201, 202, 1<<62 - 3, 1<<62 + 1, 1<<62 - 2, 1 << 61, 1<<61 - 3, math.MinInt + 1<<62 - 3, math.MaxInt - 2},
		farInts()...)
}

// anyBlocks returns n valid blocks with bytes of all kinds.
func anyBlocks(r *rand.Rand, n int, log int, width int) []impl.Block {
	var list []impl.Block
	for id := range 256 {
		// Each Id is taken as often as any other: n of those that are left.
		if r.IntN(256-id) < n-len(list) {
			list = append(list, blockOf(id, r.IntN(1<<log), anyData(r, width)...))
		}
	}
	return list
}

func anyData(r *rand.Rand, n int) []byte {
	data := make([]byte, n)
	most := []int{2, 3, 256}[r.IntN(3)]
	for i := range data {
		data[i] = byte(r.IntN(most))
	}
	return data
}

// bytesBehind returns data with room behind its length, which is filled, and all of this memory.
func bytesBehind(data []byte, fill byte) ([]byte, []byte) {
	room := append(bytes.Clone(data), bytes.Repeat([]byte{fill}, 7)...)
	return room[:len(data)], room
}

// blocksBehind returns blocks with others behind them, whose Data has bytes behind it as well, and all this memory.
func blocksBehind(list []impl.Block, others ...impl.Block) ([]impl.Block, []impl.Block, [][]byte) {
	var room []impl.Block
	var rooms [][]byte
	for _, b := range append(copyBlocks(list), others...) {
		data, whole := bytesBehind(b.Data, 1)
		room = append(room, impl.Block{Id: b.Id, Leaf: b.Leaf, Data: data})
		rooms = append(rooms, whole)
	}
	return room[:len(list)], room, rooms
}

func wantBlockOk(t *testing.T, b impl.Block, log int, width int, want bool) {
	t.Helper()
	if got := impl.BlockOk(b, log, width); got != want {
		t.Errorf("BlockOk(%v, %d, %d) is %v", b, log, width, got)
	}
	if model := modelBlockOk(b, log, width); model != want {
		t.Errorf("the model of BlockOk(%v, %d, %d) is %v", b, log, width, model)
	}
	// A block by itself is as valid as the list and the node that have no other one.
	if impl.BlocksOk([]impl.Block{b}, log, width) != want || impl.NodeOk(nodeOf(b), log, width) != want {
		t.Errorf("BlocksOk or NodeOk of the block %v, %d, %d is not %v", b, log, width, want)
	}
}

func wantBlocksOk(t *testing.T, what string, list []impl.Block, log int, width int, want bool) {
	t.Helper()
	if got := impl.BlocksOk(list, log, width); got != want {
		t.Errorf("%s: BlocksOk(%v, %d, %d) is %v", what, list, log, width, got)
	}
	if model := modelBlocksOk(list, log, width); model != want {
		t.Errorf("%s: the model of BlocksOk(%v, %d, %d) is %v", what, list, log, width, model)
	}
}

// fineNode asks all functions about one valid node.
func fineNode(t *testing.T, n impl.Node, log int, width int) {
	t.Helper()
	if !impl.NodeOk(n, log, width) || !impl.BlocksOk(n.Blocks, log, width) {
		t.Fatalf("%v, %d, %d: not NodeOk or BlocksOk", n, log, width)
	}
	want := modelNodeOf(n, log, width)
	data := impl.NodeOf(n, log, width)
	if len(data) != impl.NodeSize(width) || len(data) != len(want) {
		t.Fatalf("NodeOf(%v, %d, %d) has %d bytes, and NodeSize is %d", n, log, width, len(data), impl.NodeSize(width))
	}
	for i := range want {
		if data[i] != want[i] {
			t.Fatalf("NodeOf(%v, %d, %d) has the byte %d at %d, not %d", n, log, width, data[i], i, want[i])
		}
	}
	back, ok := impl.NodeRead(want, log, width)
	if !ok || !sameBlocks(back.Blocks, n.Blocks) {
		t.Fatalf("NodeRead of the bytes of %v, %d, %d: %v, %v", n, log, width, back, ok)
	}
	if again := impl.NodeOf(back, log, width); !bytes.Equal(again, want) {
		t.Fatalf("NodeOf(%v, %d, %d), which was read, is %v, not %v", back, log, width, again, want)
	}
}

// failNode asks for the bytes of a node that is not valid.
func failNode(t *testing.T, what string, n impl.Node, log int, width int) {
	t.Helper()
	if modelNodeOk(n, log, width) {
		t.Errorf("%s: %v, %d, %d is valid in the model", what, n, log, width)
	}
	if impl.NodeOk(n, log, width) {
		t.Errorf("%s: NodeOk(%v, %d, %d)", what, n, log, width)
	}
	if data := impl.NodeOf(n, log, width); len(data) != 0 {
		t.Errorf("%s: NodeOf(%v, %d, %d) is %v", what, n, log, width, data)
	}
}

// wantNode asks NodeRead for what the model finds in the data, which stays as it is.
func wantNode(t *testing.T, data []byte, log int, width int) bool {
	t.Helper()
	before := bytes.Clone(data)
	got, ok := impl.NodeRead(data, log, width)
	if !bytes.Equal(data, before) {
		t.Fatalf("NodeRead(%v, %d, %d) modifies its argument", before, log, width)
	}
	want, valid := modelNodeRead(data, log, width)
	if ok != valid || !sameBlocks(got.Blocks, want.Blocks) {
		t.Fatalf("NodeRead(%v, %d, %d): %v, %v, want %v, %v", data, log, width, got, ok, want, valid)
	}
	if ok && !bytes.Equal(impl.NodeOf(got, log, width), data) {
		t.Fatalf("NodeRead(%v, %d, %d): %v, whose NodeOf it is not", data, log, width, got)
	}
	return ok
}

func failNodeRead(t *testing.T, what string, data []byte, log int, width int) {
	t.Helper()
	if wantNode(t, data, log, width) {
		t.Errorf("%s: NodeRead(%v, %d, %d) is true", what, data, log, width)
	}
}

func TestNodesExamples(t *testing.T) {
	if impl.MaxId != 255 || impl.MaxWidth != 200 || impl.NodeSlots != 4 {
		t.Error("constants")
	}
	if size := impl.NodeSize(1); size != 16 {
		t.Errorf("NodeSize(1) is %d", size)
	}
	n := nodeOf(impl.Block{Id: 3, Leaf: 1, Data: []byte{9}})
	data := impl.NodeOf(n, 1, 1)
	if len(data) != 16 || !bytes.HasPrefix(data, []byte{1, 3, 1, 9, 0}) {
		t.Errorf("NodeOf(%v, 1, 1) is %v", n, data)
	}
	fineNode(t, n, 1, 1)
}

// TestNodesWritten holds the program and the plain models against bytes that are written out.
func TestNodesWritten(t *testing.T) {
	written := []struct {
		n     impl.Node
		log   int
		width int
		data  []byte
	}{
		{nodeOf(), 0, 1, make([]byte, 16)},
		{nodeOf(), 6, 200, make([]byte, 812)},
		{nodeOf(blockOf(0, 0, 0)), 0, 1, []byte{1, 0, 0, 0, 0, 0, 0, 0, 0, 0, 0, 0, 0, 0, 0, 0}},
		{nodeOf(blockOf(255, 63, 255)), 6, 1, []byte{1, 255, 63, 255, 0, 0, 0, 0, 0, 0, 0, 0, 0, 0, 0, 0}},
		{nodeOf(blockOf(1, 3, 4, 5), blockOf(128, 2, 0, 6)), 2, 2, []byte{1, 1, 3, 4, 5, 1, 128, 2, 0, 6, 0, 0, 0, 0, 0, 0, 0, 0, 0, 0}},
		{nodeOf(blockOf(0, 1, 1), blockOf(1, 1, 1), blockOf(2, 0, 0)), 1, 1, []byte{1, 0, 1, 1, 1, 1, 1, 1, 1, 2, 0, 0, 0, 0, 0, 0}},
		{nodeOf(blockOf(0, 0, 0), blockOf(1, 1, 1), blockOf(2, 2, 2), blockOf(3, 3, 3)), 2, 1, []byte{1, 0, 0, 0, 1, 1, 1, 1, 1, 2, 2, 2, 1, 3, 3, 3}},
	}
	for _, w := range written {
		if model := modelNodeOf(w.n, w.log, w.width); !bytes.Equal(model, w.data) {
			t.Errorf("the model of NodeOf(%v, %d, %d) is %v", w.n, w.log, w.width, model)
		}
		if back, ok := modelNodeRead(w.data, w.log, w.width); !ok || !sameBlocks(back.Blocks, w.n.Blocks) {
			t.Errorf("the model of NodeRead(%v, %d, %d) is %v, %v", w.data, w.log, w.width, back, ok)
		}
		fineNode(t, w.n, w.log, w.width)
	}
}

func TestNodeSize(t *testing.T) {
	var widths []int
	for width := -70; width <= impl.MaxWidth+70; width++ {
		widths = append(widths, width)
	}
	for _, width := range append(widths, someWidths()...) {
		want := -1
		if width >= 1 && width <= 200 {
			want = 3 + width + 3 + width + 3 + width + 3 + width
		}
		if got := impl.NodeSize(width); got != want {
			t.Errorf("NodeSize(%d) is %d, not %d", width, got, want)
		}
	}
	for width, want := range map[int]int{-3: -1, -2: -1, -1: -1, 0: -1, 1: 16, 2: 20, 200: 812, 201: -1, 202: -1, math.MinInt: -1, math.MaxInt: -1} {
		if got := impl.NodeSize(width); got != want {
			t.Errorf("NodeSize(%d) is %d, not %d", width, got, want)
		}
	}
}

// TestBlockOkOfOneThing changes one thing of valid blocks.
func TestBlockOkOfOneThing(t *testing.T) {
	for log := range impl.MaxLog + 1 {
		for _, width := range []int{1, 2, 77, 199, 200} {
			last := 1<<log - 1
			b := blockOf(255, last, make([]byte, width)...)
			wantBlockOk(t, b, log, width, true)
			for _, other := range allLogs() {
				// The last leaf of a tree is one of each larger tree, too.
				wantBlockOk(t, b, other, width, other >= log && other <= 6)
			}
			for _, other := range someWidths() {
				wantBlockOk(t, b, log, other, other == width)
			}
			for _, id := range someIds() {
				wantBlockOk(t, impl.Block{Id: id, Leaf: last, Data: b.Data}, log, width, id >= 0 && id <= 255)
			}
			for _, leaf := range allPlaces() {
				wantBlockOk(t, impl.Block{Id: 255, Leaf: leaf, Data: b.Data}, log, width, leaf >= 0 && leaf <= last)
			}
			for _, size := range []int{0, 1, 2, 3, width - 1, width + 1, 2 * width, width + 256, 255, 256, 812} {
				wantBlockOk(t, blockOf(255, last, make([]byte, size)...), log, width, size == width)
			}
			wantBlockOk(t, impl.Block{Id: 255, Leaf: last, Data: nil}, log, width, false)
		}
	}
}

func TestBlockOkOfLimits(t *testing.T) {
	full := make([]byte, 200)
	wantBlockOk(t, blockOf(0, 0, 0), 0, 1, true)
	wantBlockOk(t, blockOf(255, 63, full...), 6, 200, true)
	wantBlockOk(t, blockOf(256, 63, full...), 6, 200, false)
	wantBlockOk(t, blockOf(-1, 63, full...), 6, 200, false)
	wantBlockOk(t, blockOf(255, 64, full...), 6, 200, false)
	wantBlockOk(t, blockOf(255, -1, full...), 6, 200, false)
	wantBlockOk(t, blockOf(255, 64, full...), 7, 200, false)
	wantBlockOk(t, blockOf(255, 63, full...), 7, 200, false)
	wantBlockOk(t, blockOf(0, 0, 0), -1, 1, false)
	wantBlockOk(t, blockOf(0, 1, 0), 0, 1, false)
	// The Data has as many bytes as the width says, but there is no such width.
	wantBlockOk(t, blockOf(0, 0), 0, 0, false)
	wantBlockOk(t, blockOf(0, 0, make([]byte, 201)...), 0, 201, false)
	wantBlockOk(t, blockOf(0, 0, make([]byte, 202)...), 0, 202, false)
	for _, far := range []int{math.MinInt, math.MaxInt} {
		wantBlockOk(t, blockOf(far, 0, 0), 0, 1, false)
		wantBlockOk(t, blockOf(0, far, 0), 0, 1, false)
		wantBlockOk(t, blockOf(0, 0, 0), far, 1, false)
		wantBlockOk(t, blockOf(0, 0, 0), 0, far, false)
		wantBlockOk(t, blockOf(far, far, 0), far, far, false)
	}
}

func TestBlocksOkOfNone(t *testing.T) {
	for _, log := range allLogs() {
		for _, width := range someWidths() {
			ok := log >= 0 && log <= 6 && width >= 1 && width <= 200
			wantBlocksOk(t, "nil", nil, log, width, ok)
			wantBlocksOk(t, "no blocks", []impl.Block{}, log, width, ok)
			wantBlocksOk(t, "no blocks, with some behind", []impl.Block{blockOf(-1, -1), blockOf(300, 0)}[:0], log, width, ok)
			if impl.NodeOk(impl.Node{}, log, width) != ok {
				t.Errorf("NodeOk of a node without blocks, %d, %d", log, width)
			}
			if ok {
				fineNode(t, impl.Node{}, log, width)
			} else {
				failNode(t, "no blocks", impl.Node{}, log, width)
			}
		}
	}
}

// TestBlocksOkOfIds changes one Id of lists of all lengths up to and beyond NodeSlots.
func TestBlocksOkOfIds(t *testing.T) {
	for n := 1; n <= 9; n++ {
		var list []impl.Block
		for i := range n {
			list = append(list, blockOf(10*i, i%4, byte(i)))
		}
		wantBlocksOk(t, "Ids increase", list, 2, 1, true)
		if got := impl.NodeOk(nodeOf(list...), 2, 1); got != (n <= 4) {
			t.Errorf("NodeOk of %d blocks is %v", n, got)
		}
		for i := range n {
			for id := -5; id <= 10*n+5; id++ {
				other := copyBlocks(list)
				other[i].Id = id
				ok := id >= 0 && (i == 0 || id > 10*(i-1)) && (i == n-1 || id < 10*(i+1))
				wantBlocksOk(t, "one Id is another", other, 2, 1, ok)
				if got := impl.NodeOk(nodeOf(other...), 2, 1); got != (ok && n <= 4) {
					t.Errorf("NodeOk of %v is %v", other, got)
				}
			}
		}
	}
}

func TestBlocksOkOfIdsWritten(t *testing.T) {
	lists := map[string][]int{
		"equal at the first place": {5, 5, 6, 7}, "equal in the middle": {5, 6, 6, 7}, "equal at the last place": {5, 6, 7, 7},
		"they fall at the first place": {6, 5, 7, 8}, "they fall in the middle": {5, 7, 6, 8}, "they fall at the last place": {5, 6, 8, 7},
		"all equal": {3, 3, 3, 3}, "they all fall": {9, 8, 7, 6}, "the first again": {1, 2, 3, 1}, "two equal ones": {0, 0}, "two that fall": {1, 0},
		"the greatest first": {255, 0}, "the greatest twice": {254, 255, 255},
	}
	for what, ids := range lists {
		var list []impl.Block
		for _, id := range ids {
			list = append(list, blockOf(id, 0, byte(id)))
			wantBlockOk(t, blockOf(id, 0, byte(id)), 0, 1, true)
		}
		wantBlocksOk(t, what, list, 0, 1, false)
		failNode(t, what, nodeOf(list...), 0, 1)
	}
	for _, ids := range [][]int{{0, 1, 2, 3}, {0, 255}, {252, 253, 254, 255}, {0, 127, 128, 255}} {
		var list []impl.Block
		for _, id := range ids {
			list = append(list, blockOf(id, 0, byte(id)))
		}
		wantBlocksOk(t, "Ids increase", list, 0, 1, true)
		fineNode(t, nodeOf(list...), 0, 1)
	}
}

// badBlocks are blocks that are not valid for the log 2 and the width 2 for one reason each, but their Id is the given one.
func badBlocks(id int) map[string]impl.Block {
	bad := map[string]impl.Block{"Leaf 4": blockOf(id, 4, 1, 2), "Leaf -1": blockOf(id, -1, 1, 2), "Leaf 256": blockOf(id, 256, 1, 2),
		"a byte too short": blockOf(id, 3, 1), "a byte too long": blockOf(id, 3, 1, 2, 3), "no Data": blockOf(id, 3)}
	for _, leaf := range []int{math.MinInt, math.MaxInt} {
		bad[fmt.Sprint("Leaf ", leaf)] = blockOf(id, leaf, 1, 2)
	}
	return bad
}

// TestBlocksOkOfOneInvalid has a block that is not valid at each place, with all Ids in order.
func TestBlocksOkOfOneInvalid(t *testing.T) {
	for n := 1; n <= 6; n++ {
		for place := range n {
			var list []impl.Block
			for i := range n {
				list = append(list, blockOf(20+i, i%4, 7, byte(i)))
			}
			wantBlocksOk(t, "all valid", list, 2, 2, true)
			for what, b := range badBlocks(20 + place) {
				other := copyBlocks(list)
				other[place] = b
				what = fmt.Sprintf("%s at %d of %d", what, place, n)
				wantBlocksOk(t, what, other, 2, 2, false)
				failNode(t, what, nodeOf(other...), 2, 2)
			}
		}
		// Ids below and above all others are in order at the ends, but there are none.
		list := []impl.Block{}
		for i := range n {
			list = append(list, blockOf(i, 0, 7, 8))
		}
		for _, id := range []int{256, 257, math.MaxInt} {
			wantBlocksOk(t, "a great Id at the end", append(copyBlocks(list), blockOf(id, 0, 7, 8)), 2, 2, false)
			failNode(t, "a great Id at the end", nodeOf(append(copyBlocks(list), blockOf(id, 0, 7, 8))...), 2, 2)
		}
		for _, id := range []int{-1, -2, -256, math.MinInt} {
			wantBlocksOk(t, "an Id below 0 at the start", append([]impl.Block{blockOf(id, 0, 7, 8)}, list...), 2, 2, false)
			failNode(t, "an Id below 0 at the start", nodeOf(append([]impl.Block{blockOf(id, 0, 7, 8)}, list...)...), 2, 2)
		}
	}
}

// TestBlocksOkOfManyBlocks has all Ids that there are.
func TestBlocksOkOfManyBlocks(t *testing.T) {
	var list []impl.Block
	for id := range 256 {
		list = append(list, blockOf(id, id%64, byte(id), byte(255-id)))
		wantBlocksOk(t, "Ids from 0 on", list, 6, 2, true)
		if id > 3 {
			failNode(t, "too many blocks", nodeOf(list...), 6, 2)
		} else {
			fineNode(t, nodeOf(list...), 6, 2)
		}
	}
	wantBlocksOk(t, "an Id too many", append(copyBlocks(list), blockOf(256, 0, 1, 2)), 6, 2, false)
	wantBlocksOk(t, "the last Id again", append(copyBlocks(list), blockOf(255, 0, 1, 2)), 6, 2, false)
	for _, place := range []int{0, 1, 4, 128, 254, 255} {
		other := copyBlocks(list)
		other[place].Leaf = 64
		wantBlocksOk(t, "one block is not valid", other, 6, 2, false)
	}
}

func TestNodeOkLengths(t *testing.T) {
	r := rand.New(rand.NewPCG(161, 162))
	for log := range impl.MaxLog + 1 {
		for _, width := range []int{1, 2, 200} {
			for n := range 12 {
				list := anyBlocks(r, n, log, width)
				if len(list) != n || !impl.BlocksOk(list, log, width) {
					t.Fatalf("BlocksOk(%v, %d, %d)", list, log, width)
				}
				if n <= impl.NodeSlots {
					fineNode(t, nodeOf(list...), log, width)
				} else {
					failNode(t, fmt.Sprint(n, " blocks"), nodeOf(list...), log, width)
				}
			}
		}
	}
}

func TestNodeOfEveryShape(t *testing.T) {
	r := rand.New(rand.NewPCG(163, 164))
	for log := range impl.MaxLog + 1 {
		for width := 1; width <= impl.MaxWidth; width++ {
			for n := range impl.NodeSlots + 1 {
				for range 3 {
					fineNode(t, nodeOf(anyBlocks(r, n, log, width)...), log, width)
				}
			}
		}
		for range 200 {
			for _, width := range []int{1, 2, 200} {
				fineNode(t, nodeOf(anyBlocks(r, r.IntN(5), log, width)...), log, width)
			}
		}
	}
}

// TestNodeOfEveryNumber has all Ids, leaves and bytes of Data in each slot.
func TestNodeOfEveryNumber(t *testing.T) {
	for slot := range impl.NodeSlots {
		for value := range 256 {
			list := []impl.Block{blockOf(0, 0, 0), blockOf(1, 1, 1), blockOf(2, 2, 2), blockOf(3, 3, 3)}
			list[slot].Data[0] = byte(value)
			fineNode(t, nodeOf(list...), 2, 1)
			list[slot].Leaf = value % 64
			fineNode(t, nodeOf(list...), 6, 1)
		}
		for id := slot; id <= 255-(impl.NodeSlots-1-slot); id++ {
			var list []impl.Block
			for i := range impl.NodeSlots {
				switch {
				case i < slot:
					list = append(list, blockOf(i, 0, 1))
				case i == slot:
					list = append(list, blockOf(id, 0, 2))
				default:
					list = append(list, blockOf(255-(impl.NodeSlots-1-i), 0, 3))
				}
			}
			fineNode(t, nodeOf(list...), 0, 1)
			fineNode(t, nodeOf(list[:slot+1]...), 0, 1)
		}
	}
}

// TestNodeOfOtherTrees has valid nodes with a log or a width for which they are not.
func TestNodeOfOtherTrees(t *testing.T) {
	r := rand.New(rand.NewPCG(165, 166))
	for n := range impl.NodeSlots + 1 {
		for _, width := range []int{1, 2, 200} {
			list := anyBlocks(r, n, 3, width)
			for i := range list {
				list[i].Leaf = 7 - i
			}
			for _, log := range allLogs() {
				if log < 0 || log > 6 || n > 0 && log < 3 {
					failNode(t, "another log", nodeOf(list...), log, width)
				} else {
					fineNode(t, nodeOf(list...), log, width)
				}
			}
			for _, other := range someWidths() {
				if other < 1 || other > 200 || n > 0 && other != width {
					failNode(t, "another width", nodeOf(list...), 3, other)
				} else {
					fineNode(t, nodeOf(list...), 3, other)
				}
			}
		}
	}
	failNode(t, "no bytes and the width 0", nodeOf(blockOf(0, 0)), 0, 0)
	failNode(t, "201 bytes", nodeOf(blockOf(0, 0, make([]byte, 201)...)), 0, 201)
	// In one byte each, these numbers are those of a valid block.
	failNode(t, "Id 256", nodeOf(blockOf(256, 0, 1)), 0, 1)
	failNode(t, "Id -255", nodeOf(blockOf(-255, 0, 1)), 0, 1)
	failNode(t, "Leaf 256", nodeOf(blockOf(0, 256, 1)), 6, 1)
	failNode(t, "Leaf -256", nodeOf(blockOf(0, -256, 1)), 6, 1)
}

// someNodes are nodes of 0 to NodeSlots blocks, with the least and the greatest numbers among them.
func someNodes(r *rand.Rand, log int, width int) []impl.Node {
	last := 1<<log - 1
	data := func(b byte) []byte { return bytes.Repeat([]byte{b}, width) }
	nodes := []impl.Node{
		nodeOf(blockOf(0, 0, data(0)...)),
		nodeOf(blockOf(0, 0, data(0)...), blockOf(1, 0, data(0)...)),
		nodeOf(blockOf(254, last, data(255)...), blockOf(255, last, data(255)...)),
		nodeOf(blockOf(0, 0, data(0)...), blockOf(1, 0, data(0)...), blockOf(2, 0, data(0)...), blockOf(255, last, data(1)...)),
	}
	for n := range impl.NodeSlots + 1 {
		nodes = append(nodes, nodeOf(anyBlocks(r, n, log, width)...))
	}
	return nodes
}

func TestNodeReadLengths(t *testing.T) {
	r := rand.New(rand.NewPCG(167, 168))
	for log := range impl.MaxLog + 1 {
		for _, width := range []int{1, 2, 200} {
			for _, n := range someNodes(r, log, width) {
				data := modelNodeOf(n, log, width)
				size := len(data)
				if !wantNode(t, data, log, width) {
					t.Fatalf("NodeRead(%v, %d, %d) is false", data, log, width)
				}
				long := append(bytes.Clone(data), make([]byte, 300)...)
				for _, end := range []int{0, 1, 2, 3, 3 + width, size - 3 - width, size - 1, size + 1, size + 2, size + 3 + width, size + 256} {
					if end != size {
						// Behind the length, the bytes that are missing, or others, are still there.
						failNodeRead(t, "another length", long[:end], log, width)
						failNodeRead(t, "another length", bytes.Clone(long[:end]), log, width)
					}
				}
				failNodeRead(t, "one byte more", append(bytes.Clone(data), 1), log, width)
				failNodeRead(t, "the first byte is missing", data[1:], log, width)
				failNodeRead(t, "twice the same", append(bytes.Clone(data), data...), log, width)
				failNodeRead(t, "nil", nil, log, width)
				failNodeRead(t, "no bytes", []byte{}, log, width)
				failNodeRead(t, "no bytes, with some behind", data[:0], log, width)
			}
		}
	}
}

// TestNodeReadOtherTrees reads the bytes of valid nodes with a log or a width for which they are not.
func TestNodeReadOtherTrees(t *testing.T) {
	r := rand.New(rand.NewPCG(169, 170))
	for _, width := range []int{1, 2, 200} {
		for _, n := range someNodes(r, 3, width) {
			data := modelNodeOf(n, 3, width)
			for _, log := range allLogs() {
				if ok := wantNode(t, data, log, width); ok != modelNodeOk(n, log, width) {
					t.Fatalf("NodeRead(%v, %d, %d) is %v", data, log, width, ok)
				}
			}
			for _, other := range someWidths() {
				if ok := wantNode(t, data, 3, other); ok != (other == width) {
					t.Fatalf("NodeRead(%v, 3, %d) is %v", data, other, ok)
				}
			}
		}
	}
}

// TestNodeReadWithoutWidth has as many bytes as there would be if there were such a width, also in 64 bits.
func TestNodeReadWithoutWidth(t *testing.T) {
	for _, log := range allLogs() {
		for _, width := range someWidths() {
			if size := 4 * (width + 3); width < 1 || width > 200 {
				failNodeRead(t, "no bytes", nil, log, width)
				failNodeRead(t, "16 bytes", make([]byte, 16), log, width)
				if size >= 0 && size < 2000 {
					failNodeRead(t, "no such width", make([]byte, size), log, width)
				}
			}
		}
		if log < 0 || log > 6 {
			for _, width := range []int{1, 2, 200} {
				failNodeRead(t, "no such log", make([]byte, 12+4*width), log, width)
				failNodeRead(t, "no such log", modelNodeOf(nodeOf(blockOf(0, 0, make([]byte, width)...)), 0, width), log, width)
			}
		}
	}
	data := make([]byte, 12)
	data[0] = 1
	failNodeRead(t, "a block without Data", data, 0, 0)
	data = make([]byte, 816)
	data[0] = 1
	failNodeRead(t, "a block with 201 bytes", data, 0, 201)
}

// TestNodeReadFirstBytes changes the first byte of each slot of a node to each value.
func TestNodeReadFirstBytes(t *testing.T) {
	r := rand.New(rand.NewPCG(171, 172))
	for _, width := range []int{1, 2, 200} {
		for n := range impl.NodeSlots + 1 {
			blocks := anyBlocks(r, n, 6, width)
			data := modelNodeOf(nodeOf(blocks...), 6, width)
			for slot := range impl.NodeSlots {
				for value := range 256 {
					other := bytes.Clone(data)
					other[slot*(3+width)] = byte(value)
					if ok := wantNode(t, other, 6, width); ok && value > 1 {
						t.Fatalf("NodeRead(%v, 6, %d) is true", other, width)
					}
				}
			}
		}
	}
}

// TestNodeReadFreeSlotAhead has a free slot, all of whose bytes are 0 or only the first, ahead of one that is taken.
func TestNodeReadFreeSlotAhead(t *testing.T) {
	r := rand.New(rand.NewPCG(173, 174))
	for _, width := range []int{1, 2, 200} {
		for n := 1; n <= impl.NodeSlots; n++ {
			for range 20 {
				data := modelNodeOf(nodeOf(anyBlocks(r, n, 6, width)...), 6, width)
				slot := 3 + width
				for place := range n {
					one := bytes.Clone(data)
					one[place*slot] = 0
					failNodeRead(t, "a first byte is 0 and the block remains", one, 6, width)
					all := bytes.Clone(data)
					clear(all[place*slot : (place+1)*slot])
					if ok := wantNode(t, all, 6, width); ok != (place == n-1) {
						t.Fatalf("NodeRead(%v, 6, %d) is %v", all, width, ok)
					}
				}
			}
		}
		for taken := range 1 << impl.NodeSlots {
			data := make([]byte, 12+4*width)
			for slot := range impl.NodeSlots {
				if taken>>slot&1 == 1 {
					data[slot*(3+width)] = 1
					data[slot*(3+width)+1] = byte(slot)
				}
			}
			if ok := wantNode(t, data, 0, width); ok != (taken == 0 || taken == 1 || taken == 3 || taken == 7 || taken == 15) {
				t.Fatalf("NodeRead(%v, 0, %d) is %v", data, width, ok)
			}
		}
	}
}

// TestNodeReadBehindTheBlocks has one byte that is not 0 at every place behind the last block.
func TestNodeReadBehindTheBlocks(t *testing.T) {
	r := rand.New(rand.NewPCG(175, 176))
	for _, width := range []int{1, 2, 200} {
		for n := range impl.NodeSlots {
			blocks := anyBlocks(r, n, 6, width)
			data := modelNodeOf(nodeOf(blocks...), 6, width)
			for at := n * (3 + width); at < len(data); at++ {
				for _, value := range []byte{1, 2, 3, 127, 128, 254, 255} {
					other := bytes.Clone(data)
					other[at] = value
					ok := wantNode(t, other, 6, width)
					// A 1 at the first of these places makes a block of zero bytes, which is valid where it is the first block.
					if ok && (n > 0 || at > 0 || value != 1) {
						t.Fatalf("NodeRead(%v, 6, %d) is true, with the byte %d at %d behind %d blocks", other, width, value, at, n)
					}
				}
			}
		}
	}
}

// TestNodeReadLeaves has each Leaf in each slot of a node.
func TestNodeReadLeaves(t *testing.T) {
	for log := range impl.MaxLog + 1 {
		for _, width := range []int{1, 2, 200} {
			for slot := range impl.NodeSlots {
				data := make([]byte, 12+4*width)
				for i := range impl.NodeSlots {
					copy(data[i*(3+width):], []byte{1, byte(i), 0, 255})
				}
				for leaf := range 256 {
					data[slot*(3+width)+2] = byte(leaf)
					if ok := wantNode(t, data, log, width); ok != (leaf < 1<<log) {
						t.Fatalf("log %d, width %d: NodeRead with the Leaf %d in the slot %d is %v", log, width, leaf, slot, ok)
					}
				}
			}
		}
	}
}

// TestNodeReadIds has each Id in each slot of a node whose other Ids are 20, 40, 60 and 80.
func TestNodeReadIds(t *testing.T) {
	for _, width := range []int{1, 2, 200} {
		for n := 1; n <= impl.NodeSlots; n++ {
			for slot := range n {
				data := make([]byte, 12+4*width)
				for i := range n {
					copy(data[i*(3+width):], []byte{1, byte(20 * (i + 1)), 5, 1})
				}
				for id := range 256 {
					data[slot*(3+width)+1] = byte(id)
					want := (slot == 0 || id > 20*slot) && (slot == n-1 || id < 20*(slot+2))
					if ok := wantNode(t, data, 3, width); ok != want {
						t.Fatalf("width %d: NodeRead with the Id %d in the slot %d of %d is %v", width, id, slot, n, ok)
					}
				}
			}
		}
	}
}

// TestNodeReadAnyByte changes each byte of a node to each value.
func TestNodeReadAnyByte(t *testing.T) {
	r := rand.New(rand.NewPCG(177, 178))
	for log := range impl.MaxLog + 1 {
		for _, width := range []int{1, 2, 5} {
			for _, n := range someNodes(r, log, width) {
				data := modelNodeOf(n, log, width)
				for at := range data {
					was := data[at]
					for value := range 256 {
						data[at] = byte(value)
						wantNode(t, data, log, width)
					}
					data[at] = was
				}
			}
		}
	}
}

// TestNodeReadAnyData has bytes of few values, of which many are a node's and many almost.
func TestNodeReadAnyData(t *testing.T) {
	r := rand.New(rand.NewPCG(179, 180))
	valid := 0
	for range 200000 {
		log, width := r.IntN(8)-1, 1+r.IntN(2)
		data := make([]byte, 12+4*width)
		for i := range r.IntN(len(data) + 1) {
			data[i] = byte(r.IntN(3))
		}
		for i := range r.IntN(5) {
			data[i*(3+width)] = 1
		}
		if wantNode(t, data, log, width) {
			valid++
		}
	}
	if valid < 1000 {
		t.Errorf("only %d were a node's bytes", valid)
	}
}

// TestNodeOfKeepsItsArgument has blocks and bytes behind the lengths of the arguments, which are not read and stay.
func TestNodeOfKeepsItsArgument(t *testing.T) {
	r := rand.New(rand.NewPCG(181, 182))
	for range 500 {
		log, width := r.IntN(7), 1+r.IntN(4)
		list := anyBlocks(r, r.IntN(5), log, width)
		for _, others := range [][]impl.Block{{blockOf(-1, 99, 1)}, {blockOf(0, 0, make([]byte, width)...)}, {blockOf(255, 0, make([]byte, width)...), blockOf(255, 0)}} {
			blocks, room, rooms := blocksBehind(list, others...)
			before, wereBytes := copyBlocks(room), [][]byte{}
			for _, whole := range rooms {
				wereBytes = append(wereBytes, bytes.Clone(whole))
			}
			fineNode(t, impl.Node{Blocks: blocks}, log, width)
			wantBlocksOk(t, "blocks behind", blocks, log, width, true)
			if len(blocks) > 0 {
				failNode(t, "Data too short", impl.Node{Blocks: blocks}, log, 5)
			}
			if !sameBlocks(room, before) {
				t.Fatalf("NodeOf(%v): the blocks are %v, were %v", list, room, before)
			}
			for i := range rooms {
				if !bytes.Equal(rooms[i], wereBytes[i]) {
					t.Fatalf("NodeOf(%v): the bytes are %v, were %v", list, rooms[i], wereBytes[i])
				}
			}
		}
	}
	// The bytes behind the Data would make it long enough.
	short, _ := bytesBehind([]byte{1, 2}, 9)
	for width := 3; width <= 9; width++ {
		wantBlockOk(t, impl.Block{Id: 1, Leaf: 0, Data: short}, 0, width, false)
		failNode(t, "too short", nodeOf(impl.Block{Id: 1, Leaf: 0, Data: short}), 0, width)
	}
}

func TestNodeReadKeepsItsArgument(t *testing.T) {
	r := rand.New(rand.NewPCG(183, 184))
	for range 500 {
		log, width := r.IntN(7), 1+r.IntN(4)
		want := nodeOf(anyBlocks(r, r.IntN(5), log, width)...)
		for _, fill := range []byte{0, 1, 77} {
			data, room := bytesBehind(modelNodeOf(want, log, width), fill)
			before := bytes.Clone(room)
			n, ok := impl.NodeRead(data, log, width)
			if !ok || !sameBlocks(n.Blocks, want.Blocks) || !bytes.Equal(room, before) {
				t.Fatalf("NodeRead(%v, %d, %d): %v, %v, and the argument with what is behind it is %v, was %v", data, log, width, n, ok, room, before)
			}
			spoilBlocks(n.Blocks)
			if !bytes.Equal(room, before) {
				t.Fatalf("NodeRead(%v, %d, %d) shares memory with its argument", data, log, width)
			}
			data[0] = 2
			before = bytes.Clone(room)
			if wantNode(t, data, log, width) || !bytes.Equal(room, before) {
				t.Fatalf("NodeRead(%v, %d, %d) is true or modifies its argument", data, log, width)
			}
		}
	}
}

// TestNodeOfIsNew overwrites the results of NodeOf and its arguments in turn.
func TestNodeOfIsNew(t *testing.T) {
	r := rand.New(rand.NewPCG(185, 186))
	for range 500 {
		log, width := r.IntN(7), 1+r.IntN(4)
		n := nodeOf(anyBlocks(r, r.IntN(5), log, width)...)
		want := modelNodeOf(n, log, width)
		before := copyBlocks(n.Blocks)
		first, second := impl.NodeOf(n, log, width), impl.NodeOf(n, log, width)
		spoilBytes(first)
		if !bytes.Equal(second, want) || !sameBlocks(n.Blocks, before) {
			t.Fatalf("NodeOf(%v, %d, %d): two results, or a result and the argument, share memory", before, log, width)
		}
		fineNode(t, n, log, width)
		spoilBlocks(n.Blocks)
		if !bytes.Equal(second, want) {
			t.Fatalf("NodeOf(%v, %d, %d) shares memory with its argument", before, log, width)
		}
	}
}

// TestNodeReadIsNew overwrites the Data of one block after another, of one result and of two, and then the argument.
func TestNodeReadIsNew(t *testing.T) {
	r := rand.New(rand.NewPCG(187, 188))
	for range 500 {
		log, width := r.IntN(7), 1+r.IntN(4)
		want := nodeOf(anyBlocks(r, r.IntN(5), log, width)...)
		data := modelNodeOf(want, log, width)
		before := bytes.Clone(data)
		first, _ := impl.NodeRead(data, log, width)
		second, _ := impl.NodeRead(data, log, width)
		for i := range first.Blocks {
			if !sameBlocks(first.Blocks[i:], want.Blocks[i:]) {
				t.Fatalf("NodeRead(%v, %d, %d): when the Data ahead is overwritten, the blocks from %d on are %v", data, log, width, i, first.Blocks[i:])
			}
			spoilBytes(first.Blocks[i].Data)
		}
		spoilBlocks(first.Blocks)
		if !sameBlocks(second.Blocks, want.Blocks) || !bytes.Equal(data, before) {
			t.Fatalf("NodeRead(%v, %d, %d): two results, or a result and the argument, share memory", before, log, width)
		}
		spoilBytes(data)
		if !sameBlocks(second.Blocks, want.Blocks) {
			t.Fatalf("NodeRead(%v, %d, %d) shares memory with its argument", before, log, width)
		}
	}
}

// TestNodesKeepNothing asks for the same results in another order, after other calls.
func TestNodesKeepNothing(t *testing.T) {
	r := rand.New(rand.NewPCG(189, 190))
	for range 3000 {
		log, width := r.IntN(7), 1+r.IntN(5)
		n := nodeOf(anyBlocks(r, r.IntN(7), log, width)...)
		broken := modelNodeOf(nodeOf(anyBlocks(r, 3, log, width)...), log, width)
		broken[r.IntN(len(broken))] ^= 1 << r.IntN(8)
		asks := []func(){
			func() { wantBlocksOk(t, "any blocks", n.Blocks, log, width, true) },
			func() {
				if len(n.Blocks) <= impl.NodeSlots {
					fineNode(t, n, log, width)
				} else {
					failNode(t, "too many blocks", n, log, width)
				}
			},
			func() { wantNode(t, broken, log, width) },
			func() { wantNode(t, broken, r.IntN(8)-1, width) },
			func() { wantNode(t, broken, log, width+1) },
			func() { wantBlockOk(t, blockOf(256, 0, 1), 0, 1, false) },
		}
		for _, i := range r.Perm(len(asks)) {
			asks[i]()
		}
	}
}
