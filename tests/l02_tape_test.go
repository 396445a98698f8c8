package tests

import (
	"math"
	"math/rand/v2"
	"slices"
	"testing"

	"loop.example/g00663/impl"
)

// someDraws returns n valid draws, the least and the greatest among them.
func someDraws(n int) []int {
	list := make([]int, n)
	for i := range list {
		list[i] = (i * 65535) % 65536
	}
	return list
}

func tapeOf(at int, draws ...int) impl.Tape {
	return impl.Tape{Draws: draws, At: at}
}

// wantTape asks all functions about a valid tape with the given unused draws.
func wantTape(t *testing.T, what string, a impl.Tape, unused []int) {
	t.Helper()
	if !impl.TapeOk(a) || impl.TapeLeft(a) != len(unused) {
		t.Errorf("%s: TapeOk %v, TapeLeft %d, want %d", what, impl.TapeOk(a), impl.TapeLeft(a), len(unused))
	}
	wantTake(t, what, a, unused)
	for _, n := range []int{0, 1, len(unused) - 1, len(unused)} {
		if n >= 0 && n <= len(unused) {
			wantNext(t, what, a, n, unused[:n])
		}
	}
	for _, n := range []int{len(unused) + 1, len(unused) + 2, impl.MaxTape + 1, math.MaxInt, -1, -2, math.MinInt} {
		failNext(t, what, a, n)
	}
}

func wantTake(t *testing.T, what string, a impl.Tape, unused []int) {
	t.Helper()
	if len(unused) == 0 {
		failTake(t, what, a)
		return
	}
	b, draw, ok := impl.TapeTake(a)
	if !ok || draw != unused[0] || b.At != a.At+1 || !slices.Equal(b.Draws, a.Draws) {
		t.Errorf("%s: TapeTake: At %d, %d draws, draw %d, %v", what, b.At, len(b.Draws), draw, ok)
	}
}

func failTake(t *testing.T, what string, a impl.Tape) {
	t.Helper()
	if b, draw, ok := impl.TapeTake(a); ok || draw != 0 || b.At != 0 || len(b.Draws) != 0 {
		t.Errorf("%s: TapeTake: %v, %d, %v", what, b, draw, ok)
	}
}

func wantNext(t *testing.T, what string, a impl.Tape, n int, want []int) {
	t.Helper()
	if list, ok := impl.TapeNext(a, n); !ok || !slices.Equal(list, want) {
		t.Errorf("%s: TapeNext of %d: %v, %v", what, n, list, ok)
	}
}

func failNext(t *testing.T, what string, a impl.Tape, n int) {
	t.Helper()
	if list, ok := impl.TapeNext(a, n); ok || len(list) != 0 {
		t.Errorf("%s: TapeNext of %d: %v, %v", what, n, list, ok)
	}
}

// failTape asks all functions about a tape that is not valid.
func failTape(t *testing.T, what string, a impl.Tape) {
	t.Helper()
	if impl.TapeOk(a) || impl.TapeLeft(a) != -1 {
		t.Errorf("%s: TapeOk %v, TapeLeft %d", what, impl.TapeOk(a), impl.TapeLeft(a))
	}
	failTake(t, what, a)
	for _, n := range []int{-1, 0, 1, 2, len(a.Draws), len(a.Draws) - a.At, math.MinInt, math.MaxInt} {
		failNext(t, what, a, n)
	}
}

func TestTapeExamples(t *testing.T) {
	if impl.MaxTape != 4000 || impl.MaxDraw != 65535 || impl.MaxLog != 6 {
		t.Fatal("constants")
	}
	a := impl.Tape{Draws: []int{5, 65535, 8}, At: 1}
	if impl.TapeLeft(a) != 2 {
		t.Error("TapeLeft")
	}
	if b, draw, ok := impl.TapeTake(a); b.At != 2 || draw != 65535 || !ok {
		t.Error("TapeTake")
	}
	if list, ok := impl.TapeNext(a, 2); !ok || !slices.Equal(list, []int{65535, 8}) {
		t.Error("TapeNext")
	}
	if impl.LeafOf(65535, 3) != 7 || impl.LeafOf(5, 7) != -1 {
		t.Error("LeafOf")
	}
	wantTape(t, "example", a, []int{65535, 8})
}

func TestTapeWithoutDraws(t *testing.T) {
	wantTape(t, "nil", impl.Tape{}, nil)
	wantTape(t, "empty", impl.Tape{Draws: []int{}}, nil)
	wantTape(t, "empty with room", impl.Tape{Draws: []int{1, 2, 3}[:0]}, nil)
	for _, at := range []int{1, -1, 2, math.MaxInt, math.MinInt} {
		failTape(t, "At without draws", impl.Tape{At: at})
	}
}

func TestTapeLengths(t *testing.T) {
	for _, n := range []int{1, 2, 63, impl.MaxTape - 1, impl.MaxTape} {
		draws := someDraws(n)
		for _, at := range []int{0, 1, n / 2, n - 1, n} {
			wantTape(t, "length", tapeOf(at, draws...), draws[at:])
		}
	}
	for _, n := range []int{impl.MaxTape + 1, impl.MaxTape + 2, 2 * impl.MaxTape, 65536} {
		for _, at := range []int{0, 1, n - 1, n} {
			failTape(t, "too long", tapeOf(at, someDraws(n)...))
		}
	}
}

func TestTapeAt(t *testing.T) {
	for n := range 6 {
		draws := someDraws(n)
		for at := 0; at <= n; at++ {
			wantTape(t, "At", tapeOf(at, draws...), draws[at:])
		}
		for _, at := range []int{n + 1, n + 2, impl.MaxTape, math.MaxInt, -1, -2, -n - 1, math.MinInt, math.MinInt + n} {
			failTape(t, "At", tapeOf(at, draws...))
		}
	}
}

func TestTapeDraws(t *testing.T) {
	for at := range 5 {
		for i := range 4 {
			for _, v := range []int{0, 1, impl.MaxDraw - 1, impl.MaxDraw} {
				draws := []int{5, 6, 7, 8}
				draws[i] = v
				wantTape(t, "draw", tapeOf(at, draws...), draws[at:])
			}
			// A draw that is used up counts as well as one that is not.
			for _, v := range []int{impl.MaxDraw + 1, impl.MaxDraw + 2, -1, -65536, math.MaxInt, math.MinInt, 1 << 32} {
				draws := []int{5, 6, 7, 8}
				draws[i] = v
				failTape(t, "draw", tapeOf(at, draws...))
			}
		}
	}
	for _, i := range []int{0, 1, 1999, impl.MaxTape - 2, impl.MaxTape - 1} {
		for _, v := range []int{-1, impl.MaxDraw + 1} {
			draws := someDraws(impl.MaxTape)
			draws[i] = v
			for _, at := range []int{0, i, i + 1, impl.MaxTape} {
				failTape(t, "draw of a full tape", tapeOf(at, draws...))
			}
		}
	}
}

func TestTapeUsedUp(t *testing.T) {
	a := tapeOf(0, 3, 0, 65535)
	for _, want := range []int{3, 0, 65535} {
		b, draw, ok := impl.TapeTake(a)
		if !ok || draw != want {
			t.Fatalf("draw %d, %v", draw, ok)
		}
		a = b
	}
	if a.At != 3 || len(a.Draws) != 3 {
		t.Errorf("used up: %v", a)
	}
	wantTape(t, "used up", a, nil)
	failTake(t, "used up, asked again", a)
}

// roomyTape has draws behind the length of its list, which are neither read nor changed.
func roomyTape() (impl.Tape, []int) {
	room := []int{11, 12, 13, 14, -1, 70000, 17}
	return impl.Tape{Draws: room[:4], At: 1}, room
}

func TestTapeReadsNothingBehindItsLength(t *testing.T) {
	a, room := roomyTape()
	wantTape(t, "room", a, []int{12, 13, 14})
	a.At = 4
	wantTape(t, "room, used up", a, nil)
	a.At = 5
	failTape(t, "room, At behind the length", a)
	if !slices.Equal(room, []int{11, 12, 13, 14, -1, 70000, 17}) {
		t.Errorf("room is modified: %v", room)
	}
}

// spoil changes a list and what an append to it reaches.
func spoil(list []int) {
	list = list[:cap(list)]
	for i := range list {
		list[i] = 99
	}
}

func TestTapeTakeIsNew(t *testing.T) {
	a, room := roomyTape()
	before := slices.Clone(room)
	b, _, _ := impl.TapeTake(a)
	c, _, _ := impl.TapeTake(b)
	if a.At != 1 || b.At != 2 || !slices.Equal(room, before) {
		t.Fatal("argument is modified")
	}
	spoil(c.Draws)
	if !slices.Equal(b.Draws, before[:4]) {
		t.Error("TapeTake shares memory with a tape that it returned")
	}
	spoil(b.Draws)
	if !slices.Equal(room, before) {
		t.Error("TapeTake shares memory with its argument")
	}
	d, _, _ := impl.TapeTake(a)
	spoil(room)
	if !slices.Equal(d.Draws, before[:4]) {
		t.Error("the argument is kept")
	}
}

func TestTapeNextIsNew(t *testing.T) {
	for n := range 4 {
		a, room := roomyTape()
		before := slices.Clone(room)
		list, ok := impl.TapeNext(a, n)
		if !ok || a.At != 1 || !slices.Equal(room, before) {
			t.Fatal("argument is modified")
		}
		again, _ := impl.TapeNext(a, n)
		spoil(list)
		if !slices.Equal(room, before) {
			t.Errorf("TapeNext of %d shares memory with its argument", n)
		}
		spoil(room)
		if !slices.Equal(again, before[1:1+n]) {
			t.Errorf("two lists of TapeNext of %d share memory, or the argument is kept", n)
		}
	}
}

// takeAll takes draws one by one until there is none.
func takeAll(t *testing.T, a impl.Tape) ([]int, impl.Tape) {
	t.Helper()
	var list []int
	for {
		b, draw, ok := impl.TapeTake(a)
		if !ok {
			return list, a
		}
		if b.At != a.At+1 || impl.TapeLeft(b) != impl.TapeLeft(a)-1 || !slices.Equal(b.Draws, a.Draws) {
			t.Fatalf("TapeTake at %d: At %d, left %d", a.At, b.At, impl.TapeLeft(b))
		}
		list = append(list, draw)
		a = b
	}
}

// holdAgainst states promise 3 for one tape, for every number of draws.
func holdAgainst(t *testing.T, a impl.Tape) {
	t.Helper()
	taken, end := takeAll(t, a)
	if !slices.Equal(taken, a.Draws[a.At:]) || impl.TapeLeft(end) != 0 || end.At != len(a.Draws) {
		t.Fatalf("tape of %d draws at %d: %d taken", len(a.Draws), a.At, len(taken))
	}
	for n := 0; n <= len(taken); n++ {
		wantNext(t, "promise 3", a, n, taken[:n])
	}
	failNext(t, "promise 3", a, len(taken)+1)
}

func TestTapeTakenOneByOne(t *testing.T) {
	r := rand.New(rand.NewPCG(3, 4))
	for range 3000 {
		draws := make([]int, r.IntN(20))
		for i := range draws {
			draws[i] = r.IntN(impl.MaxDraw + 1)
		}
		holdAgainst(t, tapeOf(r.IntN(len(draws)+1), draws...))
	}
	holdAgainst(t, tapeOf(0, someDraws(impl.MaxTape)...))
	holdAgainst(t, tapeOf(impl.MaxTape-1, someDraws(impl.MaxTape)...))
}

func TestLeafOfAnyDraw(t *testing.T) {
	for log, leaves := range []int{1, 2, 4, 8, 16, 32, 64} {
		counts := make([]int, leaves)
		for draw := 0; draw <= impl.MaxDraw; draw++ {
			got := impl.LeafOf(draw, log)
			// The leaves come in turn, so draw and leaf differ by whole rounds.
			if got < 0 || got >= leaves || (draw-got)%leaves != 0 {
				t.Fatalf("LeafOf(%d, %d): %d", draw, log, got)
			}
			counts[got]++
		}
		for leaf, count := range counts {
			if count*leaves != impl.MaxDraw+1 {
				t.Errorf("log %d: leaf %d belongs to %d draws", log, leaf, count)
			}
		}
	}
}

func TestLeafOfNone(t *testing.T) {
	bad := []int{-1, -2, -64, math.MinInt, math.MaxInt, 1 << 32, -1 << 32}
	badDraws := append([]int{impl.MaxDraw + 1, impl.MaxDraw + 2}, bad...)
	badLogs := append([]int{impl.MaxLog + 1, impl.MaxLog + 2, 16, 63, 64, 65}, bad...)
	for _, draw := range badDraws {
		for log := 0; log <= impl.MaxLog; log++ {
			wantNoLeaf(t, draw, log)
		}
		for _, log := range badLogs {
			wantNoLeaf(t, draw, log)
		}
	}
	for _, draw := range []int{0, 1, 5, 64, impl.MaxDraw - 1, impl.MaxDraw} {
		for _, log := range badLogs {
			wantNoLeaf(t, draw, log)
		}
	}
}

func wantNoLeaf(t *testing.T, draw int, log int) {
	t.Helper()
	if got := impl.LeafOf(draw, log); got != -1 {
		t.Errorf("LeafOf(%d, %d): %d", draw, log, got)
	}
}
