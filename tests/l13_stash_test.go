package tests

import (
	"bytes"
	"fmt"
	"math"
	"math/rand/v2"
	"slices"
	"testing"

	"loop.example/g00663/impl"
)

// stashOf returns blocks with the Leaf 0 and one byte, which is the Id.
func stashOf(ids ...int) []impl.Block {
	var list []impl.Block
	for _, id := range ids {
		list = append(list, blockOf(id, 0, byte(id)))
	}
	return list
}

// idsFrom returns n numbers, one after another.
func idsFrom(first int, n int) []int {
	var ids []int
	for i := range n {
		ids = append(ids, first+i)
	}
	return ids
}

func idsOf(list []impl.Block) []int {
	var ids []int
	for _, b := range list {
		ids = append(ids, b.Id)
	}
	return ids
}

func modelStashOk(list []impl.Block, log int, width int) bool {
	return len(list) < 129 && modelBlocksOk(list, log, width)
}

// modelStashPut adds the block at the end and then moves it forward, as long as a greater Id is ahead of it.
func modelStashPut(list []impl.Block, b impl.Block, log int, width int) ([]impl.Block, bool) {
	if !modelStashOk(list, log, width) || !modelBlockOk(b, log, width) {
		return nil, false
	}
	result := copyBlocks(list)
	for i := range result {
		if result[i].Id == b.Id {
			result[i] = copyBlocks([]impl.Block{b})[0]
			return result, true
		}
	}
	result = append(result, copyBlocks([]impl.Block{b})[0])
	for i := len(result) - 1; i > 0 && result[i-1].Id > result[i].Id; i-- {
		result[i-1], result[i] = result[i], result[i-1]
	}
	if len(result) > 128 {
		return nil, false
	}
	return result, true
}

// modelStashFind goes through the list from the end, so that the first block is what remains.
func modelStashFind(list []impl.Block, id int) (impl.Block, bool) {
	found, ok := impl.Block{}, false
	for i := len(list) - 1; i >= 0 && len(list) < 129; i-- {
		if list[i].Id == id {
			found, ok = copyBlocks(list[i : i+1])[0], true
		}
	}
	return found, ok
}

func modelStashDrop(list []impl.Block, id int) ([]impl.Block, bool) {
	if _, ok := modelStashFind(list, id); !ok {
		return nil, false
	}
	return slices.DeleteFunc(copyBlocks(list), func(b impl.Block) bool { return b.Id == id }), true
}

// modelMeets has the level at which the paths of any two leaves meet.
func modelMeets(log int) [][]int {
	paths := modelPaths(log)
	var meets [][]int
	for _, a := range paths {
		var row []int
		for _, b := range paths {
			row = append(row, modelMeet(a, b))
		}
		meets = append(meets, row)
	}
	return meets
}

// modelEvict goes over the levels as the document says, with a mark for each place of the list. It needs a stash and a leaf.
func modelEvict(list []impl.Block, meets []int, log int) ([]impl.Put, []impl.Block) {
	chosen := make([]bool, len(list))
	var plan []impl.Put
	for above := range log + 1 {
		count := 0
		for i, b := range list {
			if !chosen[i] && count < 4 && meets[b.Leaf] >= log-above {
				chosen[i] = true
				count++
				plan = append(plan, impl.Put{Level: log - above, Id: b.Id})
			}
		}
	}
	var rest []impl.Block
	for i := range list {
		if !chosen[i] {
			rest = append(rest, copyBlocks(list[i : i+1])[0])
		}
	}
	return plan, rest
}

// keepsBlocks makes a call with lists that have blocks and bytes behind their lengths, and compares all of them afterwards.
func keepsBlocks(t *testing.T, what string, list []impl.Block, others []impl.Block, call func(list []impl.Block)) {
	t.Helper()
	blocks, room, rooms := blocksBehind(list, others...)
	before, wereBytes := copyBlocks(room), [][]byte{}
	for _, whole := range rooms {
		wereBytes = append(wereBytes, bytes.Clone(whole))
	}
	call(blocks)
	if !sameBlocks(room, before) {
		t.Fatalf("%s: the blocks are %v, were %v", what, room, before)
	}
	for i := range rooms {
		if !bytes.Equal(rooms[i], wereBytes[i]) {
			t.Fatalf("%s: the bytes are %v, were %v", what, rooms[i], wereBytes[i])
		}
	}
}

// spoilsInTurn overwrites the Data of one block after another, with what is behind its length, while the blocks that follow must stay,
// and then all blocks.
func spoilsInTurn(t *testing.T, what string, list []impl.Block) {
	t.Helper()
	want := copyBlocks(list)
	for i := range list {
		if !sameBlocks(list[i:], want[i:]) {
			t.Fatalf("%s: when the Data ahead is overwritten, the blocks from %d on are %v, were %v", what, i, list[i:], want[i:])
		}
		spoilBytes(list[i].Data)
	}
	// The Data stays overwritten; spoilBlocks would turn it back.
	room := list[:cap(list)]
	for i := range room {
		room[i] = blockOf(-9, -9)
	}
}

func wantStashOk(t *testing.T, what string, list []impl.Block, log int, width int, want bool) {
	t.Helper()
	if got := impl.StashOk(list, log, width); got != want {
		t.Errorf("%s: StashOk of %d blocks, %d, %d is %v", what, len(list), log, width, got)
	}
	if model := modelStashOk(list, log, width); model != want {
		t.Errorf("%s: the model of StashOk of %d blocks, %d, %d is %v", what, len(list), log, width, model)
	}
	if want {
		return
	}
	// What is no stash takes no block and gives none back.
	failStashPut(t, what, list, blockOf(0, 0, make([]byte, max(0, min(width, 300)))...), log, width)
	failEviction(t, what, list, log, width, 0)
}

// wantStashPut compares with the model, and returns whether there is a stash; it asks twice and overwrites one result.
func wantStashPut(t *testing.T, list []impl.Block, b impl.Block, log int, width int) ([]impl.Block, bool) {
	t.Helper()
	what := fmt.Sprintf("StashPut(%v, %v, %d, %d)", list, b, log, width)
	before, was := copyBlocks(list), copyBlocks([]impl.Block{b})[0]
	want, valid := modelStashPut(list, b, log, width)
	first, ok := impl.StashPut(list, b, log, width)
	second, again := impl.StashPut(list, b, log, width)
	if ok != valid || again != valid || !sameBlocks(first, want) || !sameBlocks(second, want) {
		t.Fatalf("%s: %v, %v, then %v, %v, want %v, %v", what, first, ok, second, again, want, valid)
	}
	spoilsInTurn(t, what, first)
	if !sameBlocks(second, want) || !sameBlocks(list, before) || !sameBlock(b, was) {
		t.Fatalf("%s: modifies an argument, or two results or a result and an argument share memory", what)
	}
	return second, ok
}

func failStashPut(t *testing.T, what string, list []impl.Block, b impl.Block, log int, width int) {
	t.Helper()
	if _, ok := wantStashPut(t, list, b, log, width); ok {
		t.Errorf("%s: StashPut(%v, %v, %d, %d) is true", what, list, b, log, width)
	}
}

// wantStashFind compares with the model, and returns whether there is such a block.
func wantStashFind(t *testing.T, list []impl.Block, id int) (impl.Block, bool) {
	t.Helper()
	before := copyBlocks(list)
	want, valid := modelStashFind(list, id)
	first, ok := impl.StashFind(list, id)
	second, again := impl.StashFind(list, id)
	if ok != valid || again != valid || !sameBlock(first, want) || !sameBlock(second, want) {
		t.Fatalf("StashFind(%v, %d): %v, %v, then %v, %v, want %v, %v", list, id, first, ok, second, again, want, valid)
	}
	spoilBytes(first.Data)
	if !sameBlock(second, want) || !sameBlocks(list, before) {
		t.Fatalf("StashFind(%v, %d): modifies its argument, or two results or a result and the argument share memory", before, id)
	}
	return second, ok
}

// wantStashDrop compares with the model, and returns whether there was such a block.
func wantStashDrop(t *testing.T, list []impl.Block, id int) ([]impl.Block, bool) {
	t.Helper()
	what := fmt.Sprintf("StashDrop(%v, %d)", list, id)
	before := copyBlocks(list)
	want, valid := modelStashDrop(list, id)
	first, ok := impl.StashDrop(list, id)
	second, again := impl.StashDrop(list, id)
	if ok != valid || again != valid || !sameBlocks(first, want) || !sameBlocks(second, want) {
		t.Fatalf("%s: %v, %v, then %v, %v, want %v, %v", what, first, ok, second, again, want, valid)
	}
	spoilsInTurn(t, what, first)
	if !sameBlocks(second, want) || !sameBlocks(list, before) {
		t.Fatalf("%s: modifies its argument, or two results or a result and the argument share memory", what)
	}
	return second, ok
}

// wantEviction compares both functions with the model and with the promises, for a stash and a leaf.
func wantEviction(t *testing.T, list []impl.Block, meets []int, log int, width int, leaf int) ([]impl.Put, []impl.Block) {
	t.Helper()
	before := copyBlocks(list)
	wantPlan, wantRest := modelEvict(list, meets, log)
	plan, rest := impl.EvictPlan(list, log, width, leaf), impl.EvictRest(list, log, width, leaf)
	if !slices.Equal(plan, wantPlan) || !sameBlocks(rest, wantRest) {
		t.Fatalf("the blocks %v, log %d, leaf %d: %v and %v, want %v and %v", list, log, leaf, plan, rest, wantPlan, wantRest)
	}
	wantPromises(t, list, meets, log, plan, rest)
	otherPlan, otherRest := impl.EvictPlan(list, log, width, leaf), impl.EvictRest(list, log, width, leaf)
	for i := range otherPlan[:cap(otherPlan)] {
		otherPlan[:cap(otherPlan)][i] = impl.Put{Level: -9, Id: -9}
	}
	spoilsInTurn(t, "EvictRest", otherRest)
	if !slices.Equal(plan, wantPlan) || !sameBlocks(rest, wantRest) || !sameBlocks(list, before) {
		t.Fatalf("the blocks %v, log %d, leaf %d: an argument is modified, or two results or a result and an argument share memory", before, log, leaf)
	}
	return plan, rest
}

// wantPromises holds a plan and its rest against the promises, without regard to how blocks are chosen.
func wantPromises(t *testing.T, list []impl.Block, meets []int, log int, plan []impl.Put, rest []impl.Block) {
	t.Helper()
	// A block that stays is at the level -1, below which there is nothing.
	levels := map[int]int{}
	for _, b := range rest {
		levels[b.Id] = -1
	}
	at := make([][]int, log+1)
	for i, p := range plan {
		levels[p.Id] = p.Level
		at[p.Level] = append(at[p.Level], p.Id)
		if i > 0 && (p.Level > plan[i-1].Level || p.Level == plan[i-1].Level && p.Id <= plan[i-1].Id) {
			t.Fatalf("%v: %v is behind %v", plan, p, plan[i-1])
		}
	}
	if len(plan)+len(rest) != len(list) || len(levels) != len(list) {
		t.Fatalf("%d blocks are in the plan, %d stay, with %d Ids, of %d", len(plan), len(rest), len(levels), len(list))
	}
	for _, b := range list {
		level, there := levels[b.Id]
		if !there || level > meets[b.Leaf] {
			t.Fatalf("the block %v is at the level %d, there is %v, and meets at %d", b, level, there, meets[b.Leaf])
		}
		for greater := level + 1; greater <= meets[b.Leaf]; greater++ {
			if len(at[greater]) < 4 || slices.Max(at[greater]) > b.Id {
				t.Fatalf("the block %v is at the level %d, and at %d are %v", b, level, greater, at[greater])
			}
		}
	}
	for level, ids := range at {
		if len(ids) > 4 {
			t.Fatalf("the level %d has the blocks %v", level, ids)
		}
	}
}

func failEviction(t *testing.T, what string, list []impl.Block, log int, width int, leaf int) {
	t.Helper()
	before := copyBlocks(list)
	if plan := impl.EvictPlan(list, log, width, leaf); len(plan) != 0 {
		t.Errorf("%s: EvictPlan(%v, %d, %d, %d) is %v", what, list, log, width, leaf, plan)
	}
	if rest := impl.EvictRest(list, log, width, leaf); len(rest) != 0 {
		t.Errorf("%s: EvictRest(%v, %d, %d, %d) is %v", what, list, log, width, leaf, rest)
	}
	if !sameBlocks(list, before) {
		t.Errorf("%s: the blocks %v were %v", what, list, before)
	}
}

func TestStashExampleOfPutAndDrop(t *testing.T) {
	if impl.MaxStash != 128 {
		t.Error("constant")
	}
	list, ok := impl.StashPut([]impl.Block{{Id: 2, Leaf: 1, Data: []byte{2}}}, impl.Block{Id: 1, Leaf: 0, Data: []byte{1}}, 1, 1)
	if !ok || len(list) != 2 || list[0].Id != 1 || list[1].Id != 2 {
		t.Fatalf("StashPut: %v, %v", list, ok)
	}
	rest, ok := impl.StashDrop(list, 1)
	if !ok || !sameBlocks(rest, []impl.Block{blockOf(2, 1, 2)}) {
		t.Fatalf("StashDrop: %v, %v", rest, ok)
	}
	if again, ok := impl.StashDrop(rest, 1); ok || len(again) != 0 {
		t.Fatalf("StashDrop once more: %v, %v", again, ok)
	}
}

func TestStashExampleOfEviction(t *testing.T) {
	list := stashOf(1, 2, 3, 4, 5, 6, 7, 8, 9)
	want := []impl.Put{{Level: 1, Id: 1}, {Level: 1, Id: 2}, {Level: 1, Id: 3}, {Level: 1, Id: 4}, {Level: 0, Id: 5}, {Level: 0, Id: 6}, {Level: 0, Id: 7}, {Level: 0, Id: 8}}
	if plan := impl.EvictPlan(list, 1, 1, 0); !slices.Equal(plan, want) {
		t.Errorf("EvictPlan: %v", plan)
	}
	if rest := impl.EvictRest(list, 1, 1, 0); !sameBlocks(rest, stashOf(9)) {
		t.Errorf("EvictRest: %v", rest)
	}
}

// TestEvictionsWritten holds the program and the plain model against plans that are written out.
func TestEvictionsWritten(t *testing.T) {
	// Leaves of the blocks 0, 1, 2, ..; the Ids at each level, from the root on, and those that stay.
	written := []struct {
		leaves []int
		log    int
		leaf   int
		levels [][]int
		rest   []int
	}{
		{nil, 0, 0, [][]int{{}}, nil},
		{nil, 6, 63, [][]int{{}, {}, {}, {}, {}, {}, {}}, nil},
		{[]int{0, 0, 0, 0, 0, 0}, 0, 0, [][]int{{0, 1, 2, 3}}, []int{4, 5}},
		// All of the other half: the root alone takes them.
		{[]int{1, 1, 1, 1, 1, 1}, 1, 0, [][]int{{0, 1, 2, 3}, {}}, []int{4, 5}},
		// The first ones could be at the leaf, but a level is filled by what comes first in the list.
		{[]int{1, 0, 1, 0, 1, 0, 1, 0, 1, 0, 1, 0}, 1, 0, [][]int{{0, 2, 4, 6}, {1, 3, 5, 7}}, []int{8, 9, 10, 11}},
		{[]int{0, 0, 0, 0, 0, 1, 1, 1, 1}, 1, 0, [][]int{{4, 5, 6, 7}, {0, 1, 2, 3}}, []int{8}},
		{[]int{1, 1, 1, 1, 0, 0, 0, 0, 0}, 1, 0, [][]int{{0, 1, 2, 3}, {4, 5, 6, 7}}, []int{8}},
		// The leaves 2, 3 meet at the level 1, and 2 and 0 or 1 at the root.
		{[]int{3, 2, 1, 0, 3, 2, 1, 0}, 2, 2, [][]int{{2, 3, 6, 7}, {0, 4}, {1, 5}}, nil},
		{[]int{2, 2, 2, 2, 2, 3, 3, 3, 3, 2, 0, 1, 0}, 2, 2, [][]int{{8, 9, 10, 11}, {4, 5, 6, 7}, {0, 1, 2, 3}}, []int{12}},
		{[]int{4, 5, 6, 7, 0, 4, 4, 4, 4, 4}, 3, 4, [][]int{{4}, {2, 3}, {1, 8, 9}, {0, 5, 6, 7}}, nil},
	}
	for _, w := range written {
		var list []impl.Block
		for id, leaf := range w.leaves {
			list = append(list, blockOf(id, leaf, 7))
		}
		var want []impl.Put
		for level := w.log; level >= 0; level-- {
			for _, id := range w.levels[level] {
				want = append(want, impl.Put{Level: level, Id: id})
			}
		}
		plan, rest := modelEvict(list, modelMeets(w.log)[w.leaf], w.log)
		if !slices.Equal(plan, want) || !slices.Equal(idsOf(rest), w.rest) {
			t.Errorf("the model of %v, %d, %d: %v, %v", w.leaves, w.log, w.leaf, plan, rest)
		}
		wantEviction(t, list, modelMeets(w.log)[w.leaf], w.log, 1, w.leaf)
	}
}

// evenStash returns n blocks with the Ids step, 2 * step, .., all leaves in turn and Data that tells the blocks apart.
func evenStash(n int, step int, log int, width int) []impl.Block {
	var list []impl.Block
	for i := range n {
		list = append(list, blockOf(step*(i+1), i%(1<<log), bytes.Repeat([]byte{byte(i + 1)}, width)...))
	}
	return list
}

func TestStashOkLengths(t *testing.T) {
	r := rand.New(rand.NewPCG(191, 192))
	for log := range impl.MaxLog + 1 {
		for _, width := range []int{1, 2, 200} {
			for _, n := range []int{0, 1, 2, 4, 5, 64, 127, 128, 129, 130, 200, 256} {
				list := anyBlocks(r, n, log, width)
				if len(list) != n || !impl.BlocksOk(list, log, width) {
					t.Fatalf("BlocksOk(%v, %d, %d)", list, log, width)
				}
				wantStashOk(t, "drawn", list, log, width, n <= 128)
			}
		}
	}
	for n := range 257 {
		wantStashOk(t, "Ids from 0 on", stashOf(idsFrom(0, n)...), 0, 1, n <= 128)
		wantStashOk(t, "Ids to MaxId", stashOf(idsFrom(256-n, n)...), 0, 1, n <= 128)
	}
	wantStashOk(t, "nil", nil, 0, 1, true)
	wantStashOk(t, "no blocks", []impl.Block{}, 0, 1, true)
	// What is behind the length counts as little for its number as for its blocks.
	wantStashOk(t, "no blocks, with many behind", stashOf(idsFrom(0, 200)...)[:0], 0, 1, true)
	wantStashOk(t, "MaxStash blocks, with one behind", stashOf(idsFrom(0, 129)...)[:128], 0, 1, true)
	wantStashOk(t, "one block, with equal ones behind", stashOf(7, 7, 7)[:1], 0, 1, true)
}

// TestStashOkOfOneInvalid has a block that is not valid, or an Id that does not increase, at the first, a middle and the last place.
func TestStashOkOfOneInvalid(t *testing.T) {
	for _, n := range []int{1, 2, 3, 5, 40, 127, 128} {
		for _, place := range []int{0, n / 2, n - 1} {
			list := evenStash(n, 1, 2, 2)
			wantStashOk(t, "valid", list, 2, 2, true)
			for what, b := range badBlocks(list[place].Id) {
				other := copyBlocks(list)
				other[place] = b
				wantStashOk(t, fmt.Sprintf("%s at %d of %d", what, place, n), other, 2, 2, false)
			}
			if n == 1 {
				continue
			}
			// The place is one of a pair of neighbours.
			first := max(place-1, 0)
			equal, falling := copyBlocks(list), copyBlocks(list)
			equal[first+1].Id = equal[first].Id
			wantStashOk(t, fmt.Sprintf("equal Ids at %d of %d", place, n), equal, 2, 2, false)
			falling[first].Id, falling[first+1].Id = falling[first+1].Id, falling[first].Id
			wantStashOk(t, fmt.Sprintf("Ids that fall at %d of %d", place, n), falling, 2, 2, false)
		}
	}
	for _, n := range []int{1, 2, 128} {
		for _, id := range []int{-1, -2, -256, math.MinInt} {
			list := evenStash(n, 1, 2, 2)
			list[0].Id = id
			wantStashOk(t, "an Id below 0", list, 2, 2, false)
		}
		for _, id := range []int{256, 257, 512, math.MaxInt} {
			list := evenStash(n, 1, 2, 2)
			list[n-1].Id = id
			wantStashOk(t, "an Id above MaxId", list, 2, 2, false)
		}
	}
}

func TestStashOkOfOtherTrees(t *testing.T) {
	for _, n := range []int{0, 1, 5, 128} {
		for _, width := range []int{1, 200} {
			list := evenStash(n, 1, 0, width)
			for i := range list {
				list[i].Leaf = 7
			}
			for _, log := range allLogs() {
				wantStashOk(t, "a log", list, log, width, log <= 6 && (log >= 3 || n == 0 && log >= 0))
			}
			for _, other := range someWidths() {
				wantStashOk(t, "a width", list, 3, other, other == width || n == 0 && other >= 1 && other <= 200)
			}
		}
	}
	for _, log := range allLogs() {
		for _, width := range someWidths() {
			wantStashOk(t, "no blocks", nil, log, width, log >= 0 && log <= 6 && width >= 1 && width <= 200)
		}
	}
	wantStashOk(t, "no bytes and the width 0", []impl.Block{blockOf(0, 0)}, 0, 0, false)
	wantStashOk(t, "201 bytes", []impl.Block{blockOf(0, 0, make([]byte, 201)...)}, 0, 201, false)
}

// TestStashPutEveryPlace puts a block with each Id into stashes of few Ids, and into full ones.
func TestStashPutEveryPlace(t *testing.T) {
	full := [][]int{idsFrom(0, 128), idsFrom(1, 128), idsFrom(128, 128), append(idsFrom(0, 64), idsFrom(192, 64)...)}
	var even []int
	for i := range 128 {
		even = append(even, 2*i)
	}
	full = append(full, even)
	for _, ids := range append(full, nil, []int{0}, []int{255}, []int{7}, []int{0, 255}, []int{1, 254}, []int{10, 20, 30}, idsFrom(0, 127), idsFrom(129, 127)) {
		list := stashOf(ids...)
		for id := range 256 {
			there := slices.Contains(ids, id)
			result, ok := wantStashPut(t, list, blockOf(id, 0, 77), 0, 1)
			if ok != (there || len(ids) < 128) {
				t.Fatalf("StashPut of the Id %d into a stash of %d: %v", id, len(ids), ok)
			}
			if !ok {
				continue
			}
			want := append(slices.Clone(ids), id)
			slices.Sort(want)
			if want = slices.Compact(want); !slices.Equal(idsOf(result), want) || !impl.StashOk(result, 0, 1) {
				t.Fatalf("StashPut of the Id %d into a stash of %v: %v", id, ids, result)
			}
			if b, found := impl.StashFind(result, id); !found || !sameBlock(b, blockOf(id, 0, 77)) {
				t.Fatalf("the block that was put into the stash %v is not %v", result, b)
			}
		}
	}
}

// TestStashPutWritten has results that are written out.
func TestStashPutWritten(t *testing.T) {
	written := []struct {
		list []impl.Block
		b    impl.Block
		want []impl.Block
	}{
		{nil, blockOf(0, 0, 0), []impl.Block{blockOf(0, 0, 0)}},
		{nil, blockOf(255, 1, 255), []impl.Block{blockOf(255, 1, 255)}},
		{[]impl.Block{blockOf(5, 1, 6)}, blockOf(4, 0, 7), []impl.Block{blockOf(4, 0, 7), blockOf(5, 1, 6)}},
		{[]impl.Block{blockOf(5, 1, 6)}, blockOf(6, 0, 7), []impl.Block{blockOf(5, 1, 6), blockOf(6, 0, 7)}},
		{[]impl.Block{blockOf(5, 1, 6)}, blockOf(5, 0, 7), []impl.Block{blockOf(5, 0, 7)}},
		{[]impl.Block{blockOf(5, 1, 6)}, blockOf(5, 1, 6), []impl.Block{blockOf(5, 1, 6)}},
		{[]impl.Block{blockOf(9, 1, 1), blockOf(10, 0, 2)}, blockOf(100, 1, 3), []impl.Block{blockOf(9, 1, 1), blockOf(10, 0, 2), blockOf(100, 1, 3)}},
		{[]impl.Block{blockOf(9, 1, 1), blockOf(100, 0, 2)}, blockOf(10, 1, 3), []impl.Block{blockOf(9, 1, 1), blockOf(10, 1, 3), blockOf(100, 0, 2)}},
		{[]impl.Block{blockOf(9, 1, 1), blockOf(100, 0, 2)}, blockOf(9, 0, 3), []impl.Block{blockOf(9, 0, 3), blockOf(100, 0, 2)}},
		{[]impl.Block{blockOf(9, 1, 1), blockOf(100, 0, 2)}, blockOf(100, 1, 3), []impl.Block{blockOf(9, 1, 1), blockOf(100, 1, 3)}},
	}
	for _, w := range written {
		if model, ok := modelStashPut(w.list, w.b, 1, 1); !ok || !sameBlocks(model, w.want) {
			t.Errorf("the model of StashPut(%v, %v, 1, 1): %v, %v", w.list, w.b, model, ok)
		}
		wantStashPut(t, w.list, w.b, 1, 1)
	}
}

// TestStashPutOfOneInvalid has a block that is not valid by itself, for a stash in which its Id is or is not.
func TestStashPutOfOneInvalid(t *testing.T) {
	for _, n := range []int{0, 1, 2, 5, 127, 128} {
		list := evenStash(n, 1, 2, 2)
		for _, id := range []int{0, 1, 64, 128, 129, 255} {
			for what, b := range badBlocks(id) {
				failStashPut(t, what, list, b, 2, 2)
			}
		}
		for _, id := range someIds() {
			_, ok := wantStashPut(t, list, blockOf(id, 3, 8, 9), 2, 2)
			there := id >= 1 && id <= n
			if ok != (there || id >= 0 && id <= 255 && n < 128) {
				t.Errorf("StashPut of the Id %d into a stash of %d: %v", id, n, ok)
			}
		}
		for _, leaf := range allPlaces() {
			if _, ok := wantStashPut(t, list, blockOf(1, leaf, 8, 9), 2, 2); ok != (leaf >= 0 && leaf <= 3) {
				t.Errorf("StashPut of the Leaf %d into a stash of %d: %v", leaf, n, ok)
			}
		}
		for size := range 260 {
			if _, ok := wantStashPut(t, list, blockOf(1, 0, make([]byte, size)...), 2, 2); ok != (size == 2) {
				t.Errorf("StashPut of %d bytes into a stash of %d: %v", size, n, ok)
			}
		}
	}
	failStashPut(t, "no bytes and the width 0", nil, blockOf(0, 0), 0, 0)
	failStashPut(t, "201 bytes", nil, blockOf(0, 0, make([]byte, 201)...), 0, 201)
	short, _ := bytesBehind([]byte{1, 2}, 9)
	failStashPut(t, "the bytes behind the Data make it long enough", nil, impl.Block{Id: 1, Leaf: 0, Data: short}, 0, 3)
}

// TestStashPutIntoNoStash has a block that would put a list in order that is none.
func TestStashPutIntoNoStash(t *testing.T) {
	failStashPut(t, "equal Ids", stashOf(5, 5), blockOf(5, 0, 1), 0, 1)
	failStashPut(t, "equal Ids", stashOf(5, 5), blockOf(6, 0, 1), 0, 1)
	failStashPut(t, "Ids fall", stashOf(6, 5), blockOf(5, 0, 1), 0, 1)
	failStashPut(t, "Ids fall", stashOf(6, 5), blockOf(6, 0, 1), 0, 1)
	failStashPut(t, "Ids fall", stashOf(6, 5), blockOf(7, 0, 1), 0, 1)
	failStashPut(t, "129 blocks", stashOf(idsFrom(0, 129)...), blockOf(200, 0, 1), 0, 1)
	failStashPut(t, "129 blocks", stashOf(idsFrom(0, 129)...), blockOf(5, 0, 1), 0, 1)
	failStashPut(t, "all blocks", stashOf(idsFrom(0, 256)...), blockOf(5, 0, 1), 0, 1)
	failStashPut(t, "129 blocks with few Ids", stashOf(slices.Repeat([]int{3}, 129)...), blockOf(3, 0, 1), 0, 1)
	failStashPut(t, "128 blocks with few Ids", stashOf(slices.Repeat([]int{3}, 128)...), blockOf(3, 0, 1), 0, 1)
	for what, b := range badBlocks(5) {
		// The block that is not valid is the one that would be replaced.
		failStashPut(t, what, []impl.Block{b}, blockOf(5, 0, 1, 2), 2, 2)
		failStashPut(t, what, []impl.Block{blockOf(4, 0, 1, 2), b, blockOf(6, 0, 1, 2)}, blockOf(5, 0, 1, 2), 2, 2)
		failStashPut(t, what, []impl.Block{b}, blockOf(6, 0, 1, 2), 2, 2)
		failStashPut(t, what, []impl.Block{b}, b, 2, 2)
	}
}

func TestStashPutOfOtherTrees(t *testing.T) {
	for _, list := range [][]impl.Block{nil, {blockOf(2, 0, 1, 2)}, {blockOf(1, 0, 1, 2), blockOf(3, 0, 1, 2)}} {
		for _, log := range allLogs() {
			if _, ok := wantStashPut(t, list, blockOf(2, 0, 8, 9), log, 2); ok != (log >= 0 && log <= 6) {
				t.Errorf("StashPut with the log %d: %v", log, ok)
			}
		}
		for _, width := range someWidths() {
			if _, ok := wantStashPut(t, list, blockOf(2, 0, 8, 9), 1, width); ok != (width == 2) {
				t.Errorf("StashPut with the width %d: %v", width, ok)
			}
		}
		for log := range impl.MaxLog + 1 {
			if _, ok := wantStashPut(t, list, blockOf(9, 1<<log-1, 8, 9), log, 2); !ok {
				t.Errorf("StashPut of the last leaf of the log %d", log)
			}
			failStashPut(t, "a leaf too many", list, blockOf(9, 1<<log, 8, 9), log, 2)
		}
	}
}

func TestStashPutOfManyDrawn(t *testing.T) {
	r := rand.New(rand.NewPCG(193, 194))
	for log := range impl.MaxLog + 1 {
		for _, width := range []int{1, 2, 200} {
			for _, n := range []int{0, 1, 2, 3, 8, 64, 126, 127, 128} {
				for range 5 {
					list := anyBlocks(r, n, log, width)
					_, ok := wantStashPut(t, list, blockOf(r.IntN(256), r.IntN(1<<log), anyData(r, width)...), log, width)
					if !ok && n < 128 {
						t.Fatalf("StashPut into a stash of %d is false", n)
					}
					if n > 0 {
						// In place of a block there is always room.
						if _, ok := wantStashPut(t, list, blockOf(list[r.IntN(n)].Id, r.IntN(1<<log), anyData(r, width)...), log, width); !ok {
							t.Fatalf("StashPut in place of a block of %d is false", n)
						}
					}
				}
			}
		}
	}
}

// looseBlocks returns n blocks of few Ids, in any order and with Data of any length, which are no stash.
func looseBlocks(r *rand.Rand, n int, ids []int) []impl.Block {
	var list []impl.Block
	for range n {
		list = append(list, blockOf(ids[r.IntN(len(ids))], r.IntN(300)-100, anyData(r, r.IntN(5))...))
	}
	return list
}

// wantFoundAndDropped asks for an Id of a list, of which there are that many blocks, the first with the given index.
func wantFoundAndDropped(t *testing.T, list []impl.Block, id int, first int, count int) {
	t.Helper()
	b, found := wantStashFind(t, list, id)
	if found != (count > 0) || found && !sameBlock(b, list[first]) || !found && !sameBlock(b, impl.Block{}) {
		t.Fatalf("StashFind(%v, %d): %v, %v, want the block %d", list, id, b, found, first)
	}
	rest, dropped := wantStashDrop(t, list, id)
	if dropped != (count > 0) || dropped && len(rest) != len(list)-count || !dropped && len(rest) != 0 {
		t.Fatalf("StashDrop(%v, %d): %v, %v, want %d blocks less", list, id, rest, dropped, count)
	}
	if dropped {
		wantFoundAndDropped(t, rest, id, 0, 0)
	}
}

func TestStashFindAndDropWritten(t *testing.T) {
	a, b, c := blockOf(5, 1, 6), blockOf(5, 0, 7, 8), blockOf(9, -4)
	wantFoundAndDropped(t, nil, 0, 0, 0)
	wantFoundAndDropped(t, []impl.Block{}, 0, 0, 0)
	wantFoundAndDropped(t, []impl.Block{a}, 5, 0, 1)
	wantFoundAndDropped(t, []impl.Block{a}, 4, 0, 0)
	wantFoundAndDropped(t, []impl.Block{a}, 6, 0, 0)
	wantFoundAndDropped(t, []impl.Block{{}}, 0, 0, 1)
	wantFoundAndDropped(t, []impl.Block{a, b}, 5, 0, 2)
	wantFoundAndDropped(t, []impl.Block{b, a}, 5, 0, 2)
	wantFoundAndDropped(t, []impl.Block{c, b, a}, 5, 1, 2)
	wantFoundAndDropped(t, []impl.Block{c, b, a}, 9, 0, 1)
	wantFoundAndDropped(t, []impl.Block{b, c, a}, 5, 0, 2)
	wantFoundAndDropped(t, []impl.Block{b, a, c}, 9, 2, 1)
	wantFoundAndDropped(t, []impl.Block{a, a, a, a}, 5, 0, 4)
	wantFoundAndDropped(t, []impl.Block{a, c, c}[:1], 9, 0, 0)
	if rest, ok := impl.StashDrop([]impl.Block{b, c, a, c, b}, 5); !ok || !sameBlocks(rest, []impl.Block{c, c}) {
		t.Errorf("the blocks that stay are %v, %v", rest, ok)
	}
	if rest, ok := impl.StashDrop([]impl.Block{b, c, a, c, b}, 9); !ok || !sameBlocks(rest, []impl.Block{b, a, b}) {
		t.Errorf("the blocks that stay are %v, %v", rest, ok)
	}
}

func TestStashFindAndDropOfAnyId(t *testing.T) {
	ids := append(someIds(), allPlaces()...)
	for _, other := range ids {
		list := []impl.Block{blockOf(7, 1, 1), blockOf(other, 2, 2), blockOf(300, 3, 3)}
		for _, id := range []int{other, other + 1, other - 1, other + 256, other ^ 1<<32, -other, 7, 300, math.MinInt, math.MaxInt} {
			first, count := 0, 0
			for i := len(list) - 1; i >= 0; i-- {
				if list[i].Id == id {
					first, count = i, count+1
				}
			}
			wantFoundAndDropped(t, list, id, first, count)
		}
		wantFoundAndDropped(t, nil, other, 0, 0)
		wantFoundAndDropped(t, []impl.Block{blockOf(other, other, 1)}, other, 0, 1)
	}
}

// TestStashFindAndDropLengths has as many blocks as can be, and one too many, with the Id at each place or at all.
func TestStashFindAndDropLengths(t *testing.T) {
	for _, n := range []int{1, 2, 5, 127, 128, 129, 130, 200, 256, 1000} {
		var list []impl.Block
		for i := range n {
			list = append(list, blockOf(2*i-50, i, byte(i)))
		}
		for _, place := range []int{0, 1, n / 2, 127, 128, n - 2, n - 1} {
			if place < 0 || place >= n {
				continue
			}
			if n > 128 {
				wantFoundAndDropped(t, list, list[place].Id, 0, 0)
				continue
			}
			wantFoundAndDropped(t, list, list[place].Id, place, 1)
			wantFoundAndDropped(t, list, list[place].Id+1, 0, 0)
			twice := copyBlocks(list)
			twice[n-1-place].Id = twice[place].Id
			wantFoundAndDropped(t, twice, twice[place].Id, min(place, n-1-place), len(twice)-len(slices.DeleteFunc(copyBlocks(twice), func(b impl.Block) bool { return b.Id == twice[place].Id })))
		}
		all := copyBlocks(list)
		for i := range all {
			all[i].Id = 300
		}
		if n > 128 {
			wantFoundAndDropped(t, all, 300, 0, 0)
		} else {
			wantFoundAndDropped(t, all, 300, 0, n)
		}
		wantFoundAndDropped(t, all, 299, 0, 0)
	}
	// What is behind the length makes no list longer.
	list := stashOf(idsFrom(0, 256)...)
	wantFoundAndDropped(t, list[:128], 127, 127, 1)
	wantFoundAndDropped(t, list[:128], 128, 0, 0)
	wantFoundAndDropped(t, list[:129], 0, 0, 0)
}

func TestStashFindAndDropOfManyDrawn(t *testing.T) {
	r := rand.New(rand.NewPCG(195, 196))
	pools := [][]int{{0, 1}, {-1, 0, 255, 256}, {math.MinInt, math.MaxInt, 0}, idsFrom(0, 20), idsFrom(-200, 400)}
	for _, ids := range pools {
		for _, n := range []int{0, 1, 2, 3, 10, 127, 128, 129} {
			for range 20 {
				list := looseBlocks(r, n, ids)
				for range 4 {
					id := ids[r.IntN(len(ids))]
					wantStashFind(t, list, id)
					wantStashDrop(t, list, id)
				}
			}
		}
	}
}

// leafDraws are ways to draw the leaves of a stash, with regard to the leaf whose path is asked for.
func leafDraws(log int, leaf int) []func(r *rand.Rand) int {
	half := 1 << log / 2
	return []func(r *rand.Rand) int{
		func(r *rand.Rand) int { return r.IntN(1 << log) },
		func(*rand.Rand) int { return leaf },
		// The other half of the tree meets the leaf in the root alone; a tree with one leaf has none.
		func(r *rand.Rand) int { return leaf&half ^ half | r.IntN(max(half, 1)) },
		func(r *rand.Rand) int { return (leaf ^ r.IntN(4)) & (1<<log - 1) },
		func(r *rand.Rand) int { return leaf ^ 1<<r.IntN(log+1)>>1 },
		func(r *rand.Rand) int { return []int{leaf, 0, 1<<log - 1}[r.IntN(3)] },
	}
}

// TestEvictionOfEveryLeaf draws stashes of all sizes for every leaf of every tree.
func TestEvictionOfEveryLeaf(t *testing.T) {
	r := rand.New(rand.NewPCG(197, 198))
	whole, part := 0, 0
	for log := range impl.MaxLog + 1 {
		meets := modelMeets(log)
		for leaf := range 1 << log {
			for _, draw := range leafDraws(log, leaf) {
				for _, n := range []int{0, 1, 3, 4, 5, 8, 9, 28, 29, 64, 127, 128} {
					list := anyBlocks(r, n, log, 1)
					for i := range list {
						list[i].Leaf = draw(r)
					}
					_, rest := wantEviction(t, list, meets[leaf], log, 1, leaf)
					if len(rest) > 0 {
						part++
					} else if n > 0 {
						whole++
					}
				}
			}
		}
	}
	if whole < 1000 || part < 1000 {
		t.Errorf("%d stashes were chosen whole, and of %d some blocks stayed", whole, part)
	}
}

func TestEvictionOfAnyWidth(t *testing.T) {
	r := rand.New(rand.NewPCG(199, 200))
	for log := range impl.MaxLog + 1 {
		meets := modelMeets(log)
		for _, width := range []int{1, 2, 3, 199, 200} {
			for range 20 {
				leaf := r.IntN(1 << log)
				wantEviction(t, anyBlocks(r, r.IntN(129), log, width), meets[leaf], log, width, leaf)
			}
		}
	}
}

// TestEvictionOfShortLists has all leaves of all blocks of short lists.
func TestEvictionOfShortLists(t *testing.T) {
	for log, most := range []int{12, 9, 6} {
		meets := modelMeets(log)
		for n := range most + 1 {
			leaves := make([]int, n)
			for {
				var list []impl.Block
				for i, leaf := range leaves {
					list = append(list, blockOf(3*i+1, leaf, byte(i)))
				}
				for leaf := range 1 << log {
					wantEviction(t, list, meets[leaf], log, 1, leaf)
				}
				if !nextLeaves(leaves, 1<<log) {
					break
				}
			}
		}
	}
}

// nextLeaves counts on, and returns false when it starts again.
func nextLeaves(leaves []int, count int) bool {
	for i := range leaves {
		leaves[i]++
		if leaves[i] < count {
			return true
		}
		leaves[i] = 0
	}
	return false
}

// TestEvictionOfLevels has more blocks than slots for each level, whose rest goes to the next lesser one that is not full.
func TestEvictionOfLevels(t *testing.T) {
	for log := range impl.MaxLog + 1 {
		for leaf := range 1 << log {
			for level := range log + 1 {
				// The leaf whose path leaves that of the given one right below the level; at its own level, the leaf itself.
				other := leaf
				if level < log {
					other = leaf ^ 1<<(log-level-1)
				}
				for _, n := range []int{1, 4, 5, 4 * (level + 1), 4*(level+1) + 1, 128} {
					var list []impl.Block
					for i := range n {
						list = append(list, blockOf(i, other, byte(i)))
					}
					plan, rest := wantEviction(t, list, modelMeets(log)[leaf], log, 1, leaf)
					if len(plan) != min(n, 4*(level+1)) || len(rest) != max(0, n-4*(level+1)) {
						t.Fatalf("log %d, leaf %d, %d blocks of the level %d: %v and %v", log, leaf, n, level, plan, rest)
					}
					for i, p := range plan {
						if p != (impl.Put{Level: level - i/4, Id: i}) {
							t.Fatalf("log %d, leaf %d, %d blocks of the level %d: %v", log, leaf, n, level, plan)
						}
					}
				}
			}
		}
	}
}

func TestEvictionOfNoLeaf(t *testing.T) {
	for log := range impl.MaxLog + 1 {
		for _, n := range []int{0, 1, 5, 128} {
			list := evenStash(n, 1, log, 1)
			for _, leaf := range allPlaces() {
				if leaf < 0 || leaf >= 1<<log {
					failEviction(t, "no leaf", list, log, 1, leaf)
				} else if n == 5 && len(impl.EvictPlan(list, log, 1, leaf)) == 0 {
					t.Errorf("EvictPlan of the leaf %d is empty", leaf)
				}
			}
			for _, leaf := range []int{-1, 1 << log, math.MinInt, math.MaxInt} {
				failEviction(t, "no leaf", list, log, 1, leaf)
			}
		}
	}
}

// TestEvictionOfNoStash has lists that are no stash, for each leaf; with log and width, what is no stash is in TestStashOk.
func TestEvictionOfNoStash(t *testing.T) {
	for leaf := range 4 {
		failEviction(t, "equal Ids", []impl.Block{blockOf(1, leaf, 1), blockOf(1, leaf, 1)}, 2, 1, leaf)
		failEviction(t, "Ids fall", []impl.Block{blockOf(2, leaf, 1), blockOf(1, leaf, 1)}, 2, 1, leaf)
		failEviction(t, "Ids fall at the end", []impl.Block{blockOf(2, leaf, 1), blockOf(3, leaf, 1), blockOf(0, leaf, 1)}, 2, 1, leaf)
		failEviction(t, "129 blocks", evenStash(129, 1, 2, 1), 2, 1, leaf)
		failEviction(t, "255 blocks", evenStash(255, 1, 2, 1), 2, 1, leaf)
		for what, b := range badBlocks(5) {
			failEviction(t, what, []impl.Block{b}, 2, 2, leaf)
			failEviction(t, what, []impl.Block{blockOf(1, leaf, 1, 2), b, blockOf(6, leaf, 1, 2)}, 2, 2, leaf)
			failEviction(t, what, append(evenStash(4, 1, 2, 2), b), 2, 2, leaf)
		}
		for _, log := range []int{-1, 7, math.MinInt, math.MaxInt} {
			failEviction(t, "no such log", []impl.Block{blockOf(1, 0, 1)}, log, 1, leaf)
			failEviction(t, "no such log", nil, log, 1, leaf)
		}
		for _, width := range []int{-1, 0, 201, math.MinInt, math.MaxInt} {
			failEviction(t, "no such width", []impl.Block{blockOf(1, 0, 1)}, 2, width, leaf)
			failEviction(t, "no such width", nil, 2, width, leaf)
		}
		failEviction(t, "another width", []impl.Block{blockOf(1, 0, 1)}, 2, 2, leaf)
	}
	// A leaf of one tree that is none of the smaller one to which the blocks belong.
	failEviction(t, "a leaf of another tree", evenStash(5, 1, 2, 1), 2, 1, 4)
	failEviction(t, "blocks of another tree", evenStash(5, 1, 2, 1), 1, 1, 0)
}

// TestStashKeepsItsArguments has blocks and bytes behind the lengths of the arguments, which are not read and stay.
func TestStashKeepsItsArguments(t *testing.T) {
	r := rand.New(rand.NewPCG(201, 202))
	for range 400 {
		log, width := r.IntN(7), 1+r.IntN(4)
		n := []int{0, 1, 2, 5, 127, 128}[r.IntN(6)]
		list := anyBlocks(r, n, log, width)
		id, leaf := r.IntN(256), r.IntN(1<<log)
		data, room := bytesBehind(anyData(r, width), 88)
		wasRoom := bytes.Clone(room)
		for _, others := range [][]impl.Block{nil, {blockOf(-1, 99, 1)}, {blockOf(255, 0, make([]byte, width)...), blockOf(id, 0)}} {
			keepsBlocks(t, "StashOk", list, others, func(list []impl.Block) { wantStashOk(t, "blocks behind", list, log, width, true) })
			keepsBlocks(t, "StashPut", list, others, func(list []impl.Block) {
				wantStashPut(t, list, impl.Block{Id: id, Leaf: leaf, Data: data}, log, width)
				failStashPut(t, "no such leaf", list, impl.Block{Id: id, Leaf: -1, Data: data}, log, width)
				// A block of the stash itself is put into it.
				for _, b := range list[:min(len(list), 3)] {
					wantStashPut(t, list, b, log, width)
				}
			})
			keepsBlocks(t, "StashFind and StashDrop", list, others, func(list []impl.Block) {
				for _, id := range append(idsOf(list[:min(n, 4)]), id, -1, 255) {
					wantStashFind(t, list, id)
					wantStashDrop(t, list, id)
				}
			})
			keepsBlocks(t, "EvictPlan and EvictRest", list, others, func(list []impl.Block) {
				wantEviction(t, list, modelMeets(log)[leaf], log, width, leaf)
				failEviction(t, "no leaf", list, log, width, 1<<log)
			})
		}
		if !bytes.Equal(room, wasRoom) {
			t.Fatalf("the bytes of the block are %v, were %v", room, wasRoom)
		}
	}
}

// TestStashOfSharedData has blocks that share their Data in the arguments; those of the results have their own.
func TestStashOfSharedData(t *testing.T) {
	data := []byte{1, 2}
	list := []impl.Block{{Id: 1, Leaf: 0, Data: data}, {Id: 3, Leaf: 1, Data: data}, {Id: 5, Leaf: 0, Data: data}, {Id: 6, Leaf: 0, Data: data},
		{Id: 7, Leaf: 0, Data: data}, {Id: 8, Leaf: 0, Data: data}, {Id: 9, Leaf: 0, Data: data}}
	for id := range 11 {
		wantStashPut(t, list, impl.Block{Id: id, Leaf: 1, Data: data}, 1, 2)
		wantStashFind(t, list, id)
		wantStashDrop(t, list, id)
	}
	for leaf := range 2 {
		_, rest := wantEviction(t, list, modelMeets(1)[leaf], 1, 2, leaf)
		if leaf == 1 && len(rest) < 2 {
			t.Errorf("only %v stay", rest)
		}
	}
	if !bytes.Equal(data, []byte{1, 2}) {
		t.Errorf("the Data is %v", data)
	}
}

// TestStashSameEachTime asks for the same so often that an order that differs from call to call would show.
func TestStashSameEachTime(t *testing.T) {
	r := rand.New(rand.NewPCG(203, 204))
	for _, n := range []int{2, 3, 5, 20, 128} {
		list := anyBlocks(r, n, 2, 2)
		loose := looseBlocks(r, n, []int{1, 2})
		other := blockOf(list[0].Id, 3, 4, 5)
		want, _ := modelStashPut(list, other, 2, 2)
		found, _ := modelStashFind(loose, 1)
		left, _ := modelStashDrop(loose, 1)
		plan, rest := modelEvict(list, modelMeets(2)[1], 2)
		for range 200 {
			if got, _ := impl.StashPut(list, other, 2, 2); !sameBlocks(got, want) {
				t.Fatalf("StashPut(%v, %v, 2, 2) is %v, not %v", list, other, got, want)
			}
			if got, _ := impl.StashFind(loose, 1); !sameBlock(got, found) {
				t.Fatalf("StashFind(%v, 1) is %v, not %v", loose, got, found)
			}
			if got, _ := impl.StashDrop(loose, 1); !sameBlocks(got, left) {
				t.Fatalf("StashDrop(%v, 1) is %v, not %v", loose, got, left)
			}
			if got := impl.EvictPlan(list, 2, 2, 1); !slices.Equal(got, plan) {
				t.Fatalf("EvictPlan(%v, 2, 2, 1) is %v, not %v", list, got, plan)
			}
			if got := impl.EvictRest(list, 2, 2, 1); !sameBlocks(got, rest) {
				t.Fatalf("EvictRest(%v, 2, 2, 1) is %v, not %v", list, got, rest)
			}
		}
	}
}

// TestStashIsADictionary puts, finds, drops and evicts in any order, beside a dictionary of the blocks that must be there.
func TestStashIsADictionary(t *testing.T) {
	r := rand.New(rand.NewPCG(205, 206))
	for range 60 {
		log, width := r.IntN(7), 1+r.IntN(3)
		meets := modelMeets(log)
		var list []impl.Block
		there := map[int]impl.Block{}
		most := []int{10, 140, 256}[r.IntN(3)]
		for range 400 {
			id, leaf := r.IntN(most), r.IntN(1<<log)
			known, has := there[id]
			switch r.IntN(8) {
			case 0:
				rest, ok := wantStashDrop(t, list, id)
				if ok != has {
					t.Fatalf("StashDrop of the Id %d: %v", id, ok)
				}
				if delete(there, id); ok {
					list = rest
				}
			case 1:
				if b, ok := wantStashFind(t, list, id); ok != has || !sameBlock(b, known) {
					t.Fatalf("StashFind of the Id %d: %v, %v, want %v, %v", id, b, ok, known, has)
				}
			case 2:
				if r.IntN(8) > 0 {
					continue
				}
				plan, rest := wantEviction(t, list, meets[leaf], log, width, leaf)
				for _, p := range plan {
					delete(there, p.Id)
				}
				list = rest
			default:
				b := blockOf(id, leaf, anyData(r, width)...)
				result, ok := wantStashPut(t, list, b, log, width)
				if ok != (has || len(there) < 128) {
					t.Fatalf("StashPut of the Id %d into a stash of %d: %v", id, len(there), ok)
				}
				if ok {
					list, there[id] = result, b
				}
			}
			if len(list) != len(there) || !impl.StashOk(list, log, width) {
				t.Fatalf("the stash %v has %d blocks, of %d", list, len(list), len(there))
			}
		}
	}
}

// TestStashKeepsNothing asks for anything in any order.
func TestStashKeepsNothing(t *testing.T) {
	r := rand.New(rand.NewPCG(207, 208))
	for range 20000 {
		log, width := r.IntN(8)-r.IntN(2), r.IntN(4)
		list := anyBlocks(r, r.IntN(20), max(0, min(log, 6)), width)
		if r.IntN(4) == 0 {
			list = looseBlocks(r, r.IntN(5), []int{0, 1, 2, 3})
		}
		b := blockOf(r.IntN(260)-2, r.IntN(1<<max(0, min(log, 6))), anyData(r, width)...)
		switch r.IntN(5) {
		case 0:
			wantStashOk(t, "any", list, log, width, modelStashOk(list, log, width))
		case 1:
			wantStashPut(t, list, b, log, width)
		case 2:
			wantStashFind(t, list, r.IntN(20))
		case 3:
			wantStashDrop(t, list, r.IntN(20))
		default:
			leaf := r.IntN(66) - 1
			if modelStashOk(list, log, width) && leaf >= 0 && leaf < 1<<log {
				wantEviction(t, list, modelMeets(log)[leaf], log, width, leaf)
			} else {
				failEviction(t, "any", list, log, width, leaf)
			}
		}
	}
}
