package tests

import (
	"bytes"
	"math"
	"math/rand/v2"
	"slices"
	"strings"
	"testing"

	"loop.example/g00663/impl"
)

// memOf returns a valid memory whose cells all differ and whose log has the given number of accesses.
func memOf(cells int, size int, touches int) impl.Mem {
	m := impl.Mem{Size: size}
	for i := range cells {
		m.Cells = append(m.Cells, impl.Cell{Data: someBytes(size, uint64(i))})
	}
	for i := range touches {
		m.Log = append(m.Log, impl.Touch{Op: 1 + i%2, Addr: (i / 3) % cells, Len: size})
	}
	return m
}

func copyMem(m impl.Mem) impl.Mem {
	b := impl.Mem{Size: m.Size, Log: append([]impl.Touch(nil), m.Log...)}
	for _, c := range m.Cells {
		b.Cells = append(b.Cells, impl.Cell{Data: append([]byte(nil), c.Data...)})
	}
	return b
}

func sameCells(a []impl.Cell, b []impl.Cell) bool {
	return slices.EqualFunc(a, b, func(x impl.Cell, y impl.Cell) bool { return bytes.Equal(x.Data, y.Data) })
}

func sameMem(a impl.Mem, b impl.Mem) bool {
	return a.Size == b.Size && sameCells(a.Cells, b.Cells) && slices.Equal(a.Log, b.Log)
}

func zeroMem(m impl.Mem) bool {
	return sameMem(m, impl.Mem{})
}

// allBytes returns the bytes of all cells in turn.
func allBytes(m impl.Mem) []byte {
	var list []byte
	for _, c := range m.Cells {
		list = append(list, c.Data...)
	}
	return list
}

// logged returns a memory with further accesses behind its log.
func logged(m impl.Mem, more ...impl.Touch) impl.Mem {
	m.Log = append(slices.Clip(m.Log), more...)
	return m
}

// sweepOf returns a read of each cell in turn.
func sweepOf(m impl.Mem) []impl.Touch {
	var list []impl.Touch
	for i := range m.Cells {
		list = append(list, impl.Touch{Op: 1, Addr: i, Len: m.Size})
	}
	return list
}

func wantRead(t *testing.T, what string, m impl.Mem, at int) {
	t.Helper()
	before := copyMem(m)
	got, data, code := impl.MemRead(m, at)
	want := logged(before, impl.Touch{Op: 1, Addr: at, Len: m.Size})
	if code != impl.MemFine || !bytes.Equal(data, before.Cells[at].Data) || !sameMem(got, want) {
		t.Errorf("%s: MemRead of %d: %d bytes, code %d", what, at, len(data), code)
	}
	if !sameMem(m, before) {
		t.Errorf("%s: MemRead changes its argument", what)
	}
}

func wantWrite(t *testing.T, what string, m impl.Mem, at int, data []byte) {
	t.Helper()
	before, given := copyMem(m), bytes.Clone(data)
	got, code := impl.MemWrite(m, at, data)
	want := logged(copyMem(before), impl.Touch{Op: 2, Addr: at, Len: m.Size})
	want.Cells[at].Data = given
	if code != impl.MemFine || !sameMem(got, want) {
		t.Errorf("%s: MemWrite to %d: code %d", what, at, code)
	}
	if !sameMem(m, before) || !bytes.Equal(data, given) {
		t.Errorf("%s: MemWrite changes its arguments", what)
	}
}

func wantSweep(t *testing.T, what string, m impl.Mem) {
	t.Helper()
	before := copyMem(m)
	got, data, code := impl.MemSweep(m)
	if code != impl.MemFine || !bytes.Equal(data, allBytes(before)) || !sameMem(got, logged(before, sweepOf(m)...)) {
		t.Errorf("%s: MemSweep: %d bytes, code %d", what, len(data), code)
	}
	if !sameMem(m, before) {
		t.Errorf("%s: MemSweep changes its argument", what)
	}
}

func failRead(t *testing.T, what string, m impl.Mem, at int, want int) {
	t.Helper()
	if got, data, code := impl.MemRead(m, at); code != want || len(data) != 0 || !zeroMem(got) {
		t.Errorf("%s: MemRead of %d: code %d, want %d; %d bytes, %d cells", what, at, code, want, len(data), len(got.Cells))
	}
}

func failWrite(t *testing.T, what string, m impl.Mem, at int, data []byte, want int) {
	t.Helper()
	if got, code := impl.MemWrite(m, at, data); code != want || !zeroMem(got) {
		t.Errorf("%s: MemWrite of %d bytes to %d: code %d, want %d; %d cells", what, len(data), at, code, want, len(got.Cells))
	}
}

func failSweep(t *testing.T, what string, m impl.Mem, want int) {
	t.Helper()
	if got, data, code := impl.MemSweep(m); code != want || len(data) != 0 || !zeroMem(got) {
		t.Errorf("%s: MemSweep: code %d, want %d; %d bytes, %d cells", what, code, want, len(data), len(got.Cells))
	}
}

// outside returns addresses that a memory does not have.
func outside(m impl.Mem) []int {
	n := len(m.Cells)
	return []int{-1, -2, n, n + 1, math.MinInt, math.MaxInt, math.MinInt + n, 1 << 32, -1 << 32}
}

// fineMem asks all functions about a valid memory, whatever room its log has.
func fineMem(t *testing.T, what string, m impl.Mem) {
	t.Helper()
	if !impl.MemOk(m) {
		t.Errorf("%s: not MemOk", what)
	}
	full := len(m.Log) == impl.MaxTouches
	for _, at := range []int{0, len(m.Cells) - 1} {
		if len(m.Cells) == 0 {
			continue
		}
		if full {
			failRead(t, what, m, at, impl.MemFull)
			failWrite(t, what, m, at, someBytes(m.Size, 90), impl.MemFull)
		} else {
			wantRead(t, what, m, at)
			wantWrite(t, what, m, at, someBytes(m.Size, 90))
		}
		for _, n := range []int{0, m.Size - 1, m.Size + 1, 2 * m.Size} {
			failWrite(t, what, m, at, make([]byte, n), impl.MemSize)
		}
	}
	for _, at := range outside(m) {
		failRead(t, what, m, at, impl.MemAddr)
		failWrite(t, what, m, at, make([]byte, m.Size), impl.MemAddr)
	}
	if len(m.Log)+len(m.Cells) <= impl.MaxTouches {
		wantSweep(t, what, m)
	} else {
		failSweep(t, what, m, impl.MemFull)
	}
}

// failMem asks all functions about a memory that is not valid.
func failMem(t *testing.T, what string, m impl.Mem) {
	t.Helper()
	if impl.MemOk(m) {
		t.Errorf("%s: MemOk", what)
	}
	for _, at := range append(outside(m), 0, len(m.Cells)/2, len(m.Cells)-1) {
		failRead(t, what, m, at, impl.MemForm)
		for _, n := range []int{0, 1, m.Size - 1, m.Size, m.Size + 1} {
			if n >= 0 && n <= impl.MaxCell+2 {
				failWrite(t, what, m, at, make([]byte, n), impl.MemForm)
			}
		}
	}
	failSweep(t, what, m, impl.MemForm)
}

func TestMemExamples(t *testing.T) {
	if impl.MaxCells != 128 || impl.MaxCell != 1000 || impl.MaxTouches != 6000 || impl.TouchRead != 1 || impl.TouchWrite != 2 {
		t.Error("limits")
	}
	if impl.MemFine != 0 || impl.MemForm != 1 || impl.MemAddr != 2 || impl.MemSize != 3 || impl.MemFull != 4 {
		t.Error("codes")
	}
	m, code := impl.MemWrite(impl.MemNew(2, 2), 1, []byte{7, 8})
	if code != impl.MemFine || !bytes.Equal(allBytes(m), []byte{0, 0, 7, 8}) {
		t.Errorf("MemWrite: %v, %d", m, code)
	}
	failWrite(t, "one byte", m, 1, []byte{7}, impl.MemSize)
	failWrite(t, "cell 2", m, 2, []byte{7, 8}, impl.MemAddr)
	m, data, code := impl.MemRead(m, 1)
	if code != impl.MemFine || !bytes.Equal(data, []byte{7, 8}) {
		t.Errorf("MemRead: %v, %d", data, code)
	}
	m, data, code = impl.MemSweep(m)
	if code != impl.MemFine || !bytes.Equal(data, []byte{0, 0, 7, 8}) {
		t.Errorf("MemSweep: %v, %d", data, code)
	}
	if got := impl.TouchText(m.Log); got != "w1:2 r1:2 r0:2 r1:2" {
		t.Errorf("TouchText: %s", got)
	}
}

func TestMemOfNoSize(t *testing.T) {
	failMem(t, "zero value", impl.Mem{})
	failMem(t, "empty lists", impl.Mem{Cells: []impl.Cell{}, Log: []impl.Touch{}})
	failMem(t, "cells without bytes", impl.Mem{Cells: make([]impl.Cell, 3)})
	failMem(t, "an access without bytes", impl.Mem{Cells: make([]impl.Cell, 3), Log: []impl.Touch{{Op: 1}}})
	for _, size := range []int{-1, -2, math.MinInt, impl.MaxCell + 1, impl.MaxCell + 2, 1 << 32, math.MaxInt} {
		failMem(t, "size without cells", impl.Mem{Size: size})
		failMem(t, "size with empty cells", impl.Mem{Size: size, Cells: make([]impl.Cell, 2)})
	}
}

func TestMemSizes(t *testing.T) {
	for _, size := range []int{1, 2, 33, impl.MaxCell - 1, impl.MaxCell} {
		for _, cells := range []int{0, 1, 2, 5} {
			fineMem(t, "size", memOf(cells, size, 0))
			fineMem(t, "size, with accesses", memOf(cells, size, 3*cells))
		}
	}
	for _, size := range []int{impl.MaxCell + 1, impl.MaxCell + 2} {
		for _, cells := range []int{0, 1, 2, 5} {
			failMem(t, "size", memOf(cells, size, 0))
			failMem(t, "size, with accesses", memOf(cells, size, 3*cells))
		}
	}
}

func TestMemCells(t *testing.T) {
	for _, cells := range []int{0, 1, 2, 127, impl.MaxCells} {
		fineMem(t, "cells", memOf(cells, 3, 0))
		fineMem(t, "cells, with accesses", memOf(cells, 3, cells*2))
	}
	for _, cells := range []int{impl.MaxCells + 1, impl.MaxCells + 2, 2 * impl.MaxCells} {
		failMem(t, "cells", memOf(cells, 3, 0))
		failMem(t, "cells, with accesses", memOf(cells, 3, 5))
	}
	fineMem(t, "the greatest memory", memOf(impl.MaxCells, impl.MaxCell, impl.MaxTouches))
}

func TestMemCellOfAnotherSize(t *testing.T) {
	for _, cells := range []int{1, 2, 4, impl.MaxCells} {
		for _, i := range []int{0, cells / 2, cells - 1} {
			for _, n := range []int{0, 1, 4, 6, 10} {
				m := memOf(cells, 5, 7)
				m.Cells[i].Data = someBytes(n, 1)
				failMem(t, "cell", m)
			}
			m := memOf(cells, 5, 7)
			m.Cells[i].Data = nil
			failMem(t, "cell without bytes", m)
			// Bytes behind the length of a cell are not bytes of it.
			m.Cells[i].Data = someBytes(9, 1)[:4]
			failMem(t, "cell with room for its bytes", m)
			m.Cells[i].Data = someBytes(9, 1)[:5]
			fineMem(t, "cell with room for more bytes", m)
		}
	}
	m := memOf(3, 5, 7)
	m.Size = 4
	failMem(t, "all cells have one byte too many", m)
	m.Size = 6
	failMem(t, "all cells have one byte too few", m)
}

func TestMemLogLengths(t *testing.T) {
	for _, touches := range []int{0, 1, 2, 5999, impl.MaxTouches} {
		fineMem(t, "log", memOf(3, 2, touches))
	}
	for _, touches := range []int{impl.MaxTouches + 1, impl.MaxTouches + 2, 2 * impl.MaxTouches} {
		failMem(t, "log", memOf(3, 2, touches))
	}
}

func TestMemLogElements(t *testing.T) {
	bad := []impl.Touch{{Op: 0, Addr: 1, Len: 2}, {Op: 3, Addr: 1, Len: 2}, {Op: -1, Addr: 1, Len: 2}, {Op: math.MinInt, Addr: 1, Len: 2}, {Op: math.MaxInt, Addr: 1, Len: 2},
		{Op: 1, Addr: -1, Len: 2}, {Op: 2, Addr: 3, Len: 2}, {Op: 1, Addr: 4, Len: 2}, {Op: 1, Addr: math.MinInt, Len: 2}, {Op: 2, Addr: math.MaxInt, Len: 2},
		{Op: 1, Addr: 1, Len: 1}, {Op: 2, Addr: 1, Len: 3}, {Op: 1, Addr: 1, Len: 0}, {Op: 1, Addr: 1, Len: -2}, {Op: 2, Addr: 1, Len: math.MinInt}, {Op: 2, Addr: 1, Len: math.MaxInt}, {}}
	for _, touches := range []int{1, 2, 3, impl.MaxTouches} {
		for _, i := range []int{0, touches / 2, touches - 1} {
			for _, touch := range bad {
				m := memOf(3, 2, touches)
				m.Log[i] = touch
				failMem(t, impl.TouchText([]impl.Touch{touch}), m)
			}
			for _, op := range []int{1, 2} {
				for addr := range 3 {
					m := memOf(3, 2, touches)
					m.Log[i] = impl.Touch{Op: op, Addr: addr, Len: 2}
					fineMem(t, "access", m)
				}
			}
		}
	}
}

func TestMemWithoutCells(t *testing.T) {
	fineMem(t, "no cells", impl.MemNew(0, 4))
	fineMem(t, "no cells", impl.Mem{Size: 4, Cells: []impl.Cell{}, Log: []impl.Touch{}})
	// Without cells there is nothing that could have been accessed.
	failMem(t, "an access to no cell", impl.Mem{Size: 4, Log: []impl.Touch{{Op: 1, Addr: 0, Len: 4}}})
	full := impl.Mem{Size: 4, Log: memOf(1, 4, impl.MaxTouches).Log}
	failMem(t, "a full log", full)
	full.Log = memOf(1, 4, impl.MaxTouches+1).Log
	failMem(t, "more than a full log", full)
}

func TestMemNew(t *testing.T) {
	for _, n := range []int{0, 1, 2, 127, impl.MaxCells} {
		for _, size := range []int{1, 2, 999, impl.MaxCell} {
			m := impl.MemNew(n, size)
			if m.Size != size || len(m.Cells) != n || len(m.Log) != 0 || !impl.MemOk(m) {
				t.Errorf("MemNew(%d, %d): size %d, %d cells", n, size, m.Size, len(m.Cells))
			}
			if !bytes.Equal(allBytes(m), make([]byte, n*size)) {
				t.Errorf("MemNew(%d, %d): other bytes than 0", n, size)
			}
			fineMem(t, "new", m)
		}
	}
}

func TestMemNewOutside(t *testing.T) {
	badCells := []int{-1, -2, impl.MaxCells + 1, impl.MaxCells + 2, impl.MaxCell, 1 << 32, math.MinInt, math.MaxInt}
	badSizes := []int{0, -1, impl.MaxCell + 1, impl.MaxCell + 2, 1 << 32, math.MinInt, math.MaxInt}
	for _, n := range append([]int{0, 1, impl.MaxCells}, badCells...) {
		for _, size := range badSizes {
			if m := impl.MemNew(n, size); !zeroMem(m) {
				t.Errorf("MemNew(%d, %d): size %d, %d cells", n, size, m.Size, len(m.Cells))
			}
		}
	}
	for _, n := range badCells {
		for _, size := range append([]int{1, 2, impl.MaxCell}, badSizes...) {
			if m := impl.MemNew(n, size); !zeroMem(m) {
				t.Errorf("MemNew(%d, %d): size %d, %d cells", n, size, m.Size, len(m.Cells))
			}
		}
	}
}

// notValid returns the memory with one flaw each.
func notValid(m impl.Mem) []impl.Mem {
	var list []impl.Mem
	for _, size := range []int{0, -1, m.Size + 1, m.Size - 1, impl.MaxCell + 1} {
		b := copyMem(m)
		b.Size = size
		list = append(list, b)
	}
	short, long, other, crowd := copyMem(m), copyMem(m), copyMem(m), copyMem(m)
	short.Cells[0].Data = short.Cells[0].Data[1:]
	long.Log = append(long.Log, make([]impl.Touch, impl.MaxTouches+1-len(long.Log))...)
	other.Log[len(other.Log)-1].Op = 3
	crowd.Cells = append(crowd.Cells, memOf(impl.MaxCells, m.Size, 0).Cells...)
	return append(list, short, long, other, crowd)
}

// TestMemCodesTogether combines all codes; the one that the document names first is returned.
func TestMemCodesTogether(t *testing.T) {
	for _, touches := range []int{4, impl.MaxTouches - 1, impl.MaxTouches} {
		m := memOf(3, 2, touches)
		code := impl.MemFine
		if touches == impl.MaxTouches {
			code = impl.MemFull
		}
		for _, at := range []int{0, 1, 2, -1, 3, math.MinInt, math.MaxInt} {
			for _, data := range [][]byte{{1, 2}, {1}, {1, 2, 3}, nil, {}} {
				want := code
				if len(data) != 2 {
					want = impl.MemSize
				}
				if at < 0 || at > 2 {
					want = impl.MemAddr
				}
				wantCodes(t, m, at, data, want)
				for _, b := range notValid(m) {
					wantCodes(t, b, at, data, impl.MemForm)
				}
			}
		}
	}
}

// wantCodes asks for a write with the given code, and for a read, which has no code of its own for the data.
func wantCodes(t *testing.T, m impl.Mem, at int, data []byte, want int) {
	t.Helper()
	read := want
	if want == impl.MemSize {
		read = impl.MemFine
		if len(m.Log) == impl.MaxTouches {
			read = impl.MemFull
		}
	}
	if want == impl.MemFine {
		wantWrite(t, "codes", m, at, data)
	} else {
		failWrite(t, "codes", m, at, data, want)
	}
	if read == impl.MemFine {
		wantRead(t, "codes", m, at)
	} else {
		failRead(t, "codes", m, at, read)
	}
}

func TestMemEveryCell(t *testing.T) {
	m := memOf(impl.MaxCells, 4, 10)
	for at := range m.Cells {
		wantRead(t, "cell", m, at)
		wantWrite(t, "cell", m, at, []byte{1, 0, 255, byte(at)})
	}
	for _, at := range outside(m) {
		failRead(t, "outside", m, at, impl.MemAddr)
		failWrite(t, "outside", m, at, []byte{1, 2, 3, 4}, impl.MemAddr)
	}
}

func TestMemFillsItsLog(t *testing.T) {
	m := memOf(2, 3, impl.MaxTouches-1)
	wantRead(t, "room for one", m, 1)
	wantWrite(t, "room for one", m, 1, []byte{1, 2, 3})
	failSweep(t, "room for one", m, impl.MemFull)
	for _, write := range []bool{true, false} {
		b, _, code := impl.MemRead(m, 0)
		if write {
			b, code = impl.MemWrite(m, 0, []byte{1, 2, 3})
		}
		if code != impl.MemFine || len(b.Log) != impl.MaxTouches || !impl.MemOk(b) {
			t.Fatalf("%d accesses, code %d", len(b.Log), code)
		}
		for at := range 2 {
			failRead(t, "full", b, at, impl.MemFull)
			failWrite(t, "full", b, at, []byte{4, 5, 6}, impl.MemFull)
		}
		failWrite(t, "full", b, 0, []byte{4, 5}, impl.MemSize)
		failWrite(t, "full", b, 2, []byte{4, 5, 6}, impl.MemAddr)
		failRead(t, "full", b, 2, impl.MemAddr)
		failSweep(t, "full", b, impl.MemFull)
	}
}

func TestMemSweepRoom(t *testing.T) {
	for _, cells := range []int{1, 2, 3, impl.MaxCells} {
		for _, left := range []int{cells, cells + 1, 2 * cells} {
			wantSweep(t, "room", memOf(cells, 2, impl.MaxTouches-left))
		}
		for _, left := range []int{cells - 1, cells / 2, 0} {
			failSweep(t, "no room", memOf(cells, 2, impl.MaxTouches-left), impl.MemFull)
		}
		m := memOf(cells, 2, impl.MaxTouches-cells)
		m, _, _ = impl.MemSweep(m)
		if len(m.Log) != impl.MaxTouches || !impl.MemOk(m) {
			t.Errorf("%d cells: %d accesses", cells, len(m.Log))
		}
		failSweep(t, "swept until full", m, impl.MemFull)
	}
	for _, m := range notValid(memOf(3, 2, impl.MaxTouches-1)) {
		failSweep(t, "neither valid nor room", m, impl.MemForm)
	}
}

// TestMemSweepIsReads performs the reads of a sweep one by one.
func TestMemSweepIsReads(t *testing.T) {
	for _, cells := range []int{0, 1, 2, 7, impl.MaxCells} {
		m := memOf(cells, 3, cells)
		swept, all, code := impl.MemSweep(m)
		var list []byte
		for at := range cells {
			b, data, bad := impl.MemRead(m, at)
			if bad != impl.MemFine {
				t.Fatal(bad)
			}
			m, list = b, append(list, data...)
		}
		if code != impl.MemFine || !sameMem(swept, m) || !bytes.Equal(all, list) {
			t.Errorf("%d cells: %s, code %d", cells, impl.TouchText(swept.Log), code)
		}
	}
}

func TestTouchText(t *testing.T) {
	low, high := "-9223372036854775808", "9223372036854775807"
	texts := []struct {
		log  []impl.Touch
		want string
	}{
		{nil, ""},
		{[]impl.Touch{}, ""},
		{[]impl.Touch{{Op: 1, Addr: 0, Len: 1}}, "r0:1"},
		{[]impl.Touch{{Op: 2, Addr: 127, Len: 1000}}, "w127:1000"},
		{[]impl.Touch{{}}, "?0:0"},
		{[]impl.Touch{{Op: 3, Addr: 4, Len: 5}, {Op: -1, Addr: 4, Len: 5}, {Op: 0, Addr: 4, Len: 5}}, "?4:5 ?4:5 ?4:5"},
		{[]impl.Touch{{Op: 9, Addr: -1}}, "?-1:0"},
		{[]impl.Touch{{Op: 1, Addr: -12, Len: -345}, {Op: 2, Addr: 0, Len: -1}}, "r-12:-345 w0:-1"},
		{[]impl.Touch{{Op: math.MinInt, Addr: math.MinInt, Len: math.MaxInt}}, "?" + low + ":" + high},
		{[]impl.Touch{{Op: math.MaxInt, Addr: math.MaxInt, Len: math.MinInt}}, "?" + high + ":" + low},
		{[]impl.Touch{{Op: 2, Addr: math.MinInt, Len: math.MinInt}, {Op: 1, Addr: math.MaxInt, Len: math.MaxInt}}, "w" + low + ":" + low + " r" + high + ":" + high},
		{[]impl.Touch{{Op: 1 << 32, Addr: 10, Len: 100}, {Op: 1<<32 + 1, Addr: 1, Len: 1}}, "?10:100 ?1:1"},
	}
	for _, x := range texts {
		if got := impl.TouchText(x.log); got != x.want {
			t.Errorf("TouchText: %q, want %q", got, x.want)
		}
	}
}

func TestTouchTextLengths(t *testing.T) {
	for _, n := range []int{2, 3, impl.MaxTouches - 1, impl.MaxTouches} {
		want := strings.Repeat("w7:8 ", n-1) + "w7:8"
		if got := impl.TouchText(slices.Repeat([]impl.Touch{{Op: 2, Addr: 7, Len: 8}}, n)); got != want {
			t.Errorf("TouchText of %d elements: %d bytes", n, len(got))
		}
	}
	for _, n := range []int{impl.MaxTouches + 1, impl.MaxTouches + 2, 2 * impl.MaxTouches} {
		if got := impl.TouchText(make([]impl.Touch, n)); got != "" {
			t.Errorf("TouchText of %d elements: %d bytes", n, len(got))
		}
	}
	room := []impl.Touch{{Op: 1, Addr: 2, Len: 3}, {Op: 2, Addr: 3, Len: 4}}
	if got := impl.TouchText(room[:1]); got != "r2:3" || room[1] != (impl.Touch{Op: 2, Addr: 3, Len: 4}) {
		t.Errorf("TouchText of a log with room: %q", got)
	}
}

// roomyMem is valid, with other cells, bytes and accesses behind the lengths of its lists.
// The second memory shows all of them.
func roomyMem() (impl.Mem, impl.Mem) {
	all := impl.Mem{Size: 3}
	short := impl.Mem{Size: 3}
	for i := range 7 {
		data := someBytes(8, uint64(i))
		all.Cells = append(all.Cells, impl.Cell{Data: data})
		short.Cells = append(short.Cells, impl.Cell{Data: data[:3]})
	}
	short.Cells[3].Data = nil
	short.Cells = short.Cells[:3]
	for i := range 9 {
		all.Log = append(all.Log, impl.Touch{Op: 1 + i, Addr: i, Len: 3 + i/2})
	}
	short.Log = all.Log[:2]
	return short, all
}

// spoilMem changes all that a memory holds and what appends to its lists reach.
func spoilMem(m impl.Mem) {
	log := m.Log[:cap(m.Log)]
	for i := range log {
		log[i] = impl.Touch{Op: 99, Addr: 99, Len: 99}
	}
	cells := m.Cells[:cap(m.Cells)]
	for i := range cells {
		spoilBytes(cells[i].Data)
		cells[i].Data = nil
	}
}

func TestMemReadsNothingBehindItsLengths(t *testing.T) {
	m, all := roomyMem()
	before := copyMem(all)
	cells := copyMem(impl.Mem{Cells: m.Cells[:7]}).Cells
	fineMem(t, "room", m)
	if !sameMem(all, before) || !sameCells(m.Cells[:7], cells) {
		t.Error("the room behind a memory is modified")
	}
	m.Log = all.Log[:3]
	failMem(t, "an access more", m)
	m.Log = all.Log[:2]
	m.Cells = m.Cells[:4]
	failMem(t, "a cell more", m)
}

// calls returns what each function that returns a memory returns for roomyMem.
func calls(t *testing.T, m impl.Mem, data []byte) ([]impl.Mem, [][]byte) {
	t.Helper()
	a, one, code1 := impl.MemRead(m, 1)
	b, code2 := impl.MemWrite(m, 1, data)
	c, list, code3 := impl.MemSweep(m)
	if code1 != impl.MemFine || code2 != impl.MemFine || code3 != impl.MemFine {
		t.Fatalf("codes %d, %d, %d", code1, code2, code3)
	}
	return []impl.Mem{a, b, c}, [][]byte{one, nil, list}
}

func TestMemResultsAreNew(t *testing.T) {
	for i := range 3 {
		m, all := roomyMem()
		room := []byte{7, 8, 9, 10, 11, 12, 13, 14}
		before, cells := copyMem(all), copyMem(impl.Mem{Cells: m.Cells[:7]}).Cells
		mems, lists := calls(t, m, room[:3])
		again, more := calls(t, m, room[:3])
		spoilMem(mems[i])
		spoilBytes(lists[i])
		if !sameMem(all, before) || !sameCells(m.Cells[:7], cells) || !bytes.Equal(room, []byte{7, 8, 9, 10, 11, 12, 13, 14}) {
			t.Fatalf("call %d shares memory with an argument", i)
		}
		want, bytesWanted := copyMem(again[i]), bytes.Clone(more[i])
		spoilMem(m)
		spoilBytes(room)
		if !sameMem(again[i], want) || !bytes.Equal(more[i], bytesWanted) {
			t.Fatalf("call %d keeps an argument", i)
		}
	}
}

func TestMemListsOfOneResult(t *testing.T) {
	for i := range 3 {
		m, _ := roomyMem()
		mems, lists := calls(t, m, []byte{7, 8, 9})
		if !impl.MemOk(mems[i]) {
			t.Fatalf("call %d returns a memory that is not valid", i)
		}
		own := [][]byte{lists[i]}
		for _, c := range mems[i].Cells {
			own = append(own, c.Data)
		}
		wantOwnBytes(t, "memory", own...)
	}
	for _, n := range []int{1, 2, 5} {
		m := impl.MemNew(n, 4)
		var own [][]byte
		for _, c := range m.Cells {
			own = append(own, c.Data)
		}
		wantOwnBytes(t, "MemNew", own...)
	}
	a, b := impl.MemNew(2, 2), impl.MemNew(2, 2)
	spoilMem(a)
	if !bytes.Equal(allBytes(b), make([]byte, 4)) {
		t.Error("two memories of MemNew share memory")
	}
}

// TestMemNextIsNew appends to the log of one memory twice; neither access may reach the other.
func TestMemNextIsNew(t *testing.T) {
	m := memOf(3, 2, 0)
	for range 40 {
		a, _, _ := impl.MemRead(m, 0)
		b, _ := impl.MemWrite(m, 1, []byte{1, 2})
		c, _, _ := impl.MemSweep(m)
		n := len(m.Log)
		if a.Log[n].Op != 1 || b.Log[n].Op != 2 || len(a.Log) != n+1 || len(b.Log) != n+1 || len(c.Log) != n+3 {
			t.Fatalf("logs after %d accesses: %v, %v, %v", n, a.Log[n:], b.Log[n:], c.Log[n:])
		}
		if c.Log[n].Addr != 0 || a.Log[n].Addr != 0 || b.Log[n].Addr != 1 {
			t.Fatalf("two logs share memory after %d accesses", n)
		}
		m = a
	}
}

// modelStep performs one random access to a memory and to the model of it, a plain memory
// whose bytes and log the test itself keeps.
func modelStep(t *testing.T, r *rand.Rand, m impl.Mem, model *impl.Mem) impl.Mem {
	t.Helper()
	at := r.IntN(len(model.Cells))
	switch r.IntN(5) {
	case 0, 1:
		data := someBytes(model.Size, r.Uint64())
		b, code := impl.MemWrite(m, at, data)
		model.Cells[at].Data = data
		model.Log = append(model.Log, impl.Touch{Op: 2, Addr: at, Len: model.Size})
		if code != impl.MemFine {
			t.Fatalf("MemWrite: code %d", code)
		}
		return b
	case 2, 3:
		b, data, code := impl.MemRead(m, at)
		model.Log = append(model.Log, impl.Touch{Op: 1, Addr: at, Len: model.Size})
		if code != impl.MemFine || !bytes.Equal(data, model.Cells[at].Data) {
			t.Fatalf("MemRead: %v, code %d", data, code)
		}
		return b
	}
	b, data, code := impl.MemSweep(m)
	model.Log = append(model.Log, sweepOf(*model)...)
	if code != impl.MemFine || !bytes.Equal(data, allBytes(*model)) {
		t.Fatalf("MemSweep: %v, code %d", data, code)
	}
	return b
}

// TestMemHoldsWhatWasWrittenLast states promise 5: what is read is what was written last,
// and the log has each access once, in order. Earlier memories stay as they were.
func TestMemHoldsWhatWasWrittenLast(t *testing.T) {
	r := rand.New(rand.NewPCG(11, 12))
	for range 60 {
		m := impl.MemNew(1+r.IntN(6), 1+r.IntN(5))
		model := copyMem(m)
		var mems, models []impl.Mem
		for range 60 {
			m = modelStep(t, r, m, &model)
			if !impl.MemOk(m) || !sameMem(m, model) || impl.TouchText(m.Log) != impl.TouchText(model.Log) {
				t.Fatalf("the memory differs from its model after %s", impl.TouchText(model.Log))
			}
			mems, models = append(mems, m), append(models, copyMem(model))
		}
		for i := range mems {
			if !sameMem(mems[i], models[i]) {
				t.Fatal("an earlier memory is modified")
			}
		}
	}
}

// TestMemUntilFull makes as many accesses as a log takes.
func TestMemUntilFull(t *testing.T) {
	m := impl.MemNew(2, 2)
	for i := range impl.MaxTouches / 2 {
		b, code := impl.MemWrite(m, i%2, []byte{byte(i), byte(i / 256)})
		c, data, code2 := impl.MemRead(b, i%2)
		if code != impl.MemFine || code2 != impl.MemFine || !bytes.Equal(data, []byte{byte(i), byte(i / 256)}) {
			t.Fatalf("access %d: codes %d, %d", i, code, code2)
		}
		m = c
	}
	if got := impl.TouchText(m.Log); got != strings.TrimSuffix(strings.Repeat("w0:2 r0:2 w1:2 r1:2 ", impl.MaxTouches/4), " ") {
		t.Error("the log is not the sequence of accesses")
	}
	fineMem(t, "full", m)
}
