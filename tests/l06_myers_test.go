package tests

import (
	"bytes"
	"fmt"
	"math"
	"math/rand/v2"
	"slices"
	"strings"
	"testing"

	"loop.example/g00663/impl"
)

const topElement = 2 * impl.MaxWord

// modelColumn returns the column of a Bits by the document's definition, and whether the Bits is valid.
func modelColumn(s impl.Bits) ([]int, bool) {
	if s.Len < 0 || s.Len > 32 || s.Score < 0 || s.Score > 64 {
		return nil, false
	}
	for i := range 64 {
		if bitOf(s.Pv, i) && bitOf(s.Mv, i) || i >= s.Len && (bitOf(s.Pv, i) || bitOf(s.Mv, i)) {
			return nil, false
		}
	}
	column := []int{s.Score}
	for i := s.Len - 1; i >= 0; i-- {
		element := column[0]
		if bitOf(s.Pv, i) {
			element--
		}
		if bitOf(s.Mv, i) {
			element++
		}
		column = append([]int{element}, column...)
	}
	for _, element := range column {
		if element < 0 || element > 64 {
			return nil, false
		}
	}
	return column, true
}

// bitsOf returns the Bits of a column whose adjacent elements differ by at most 1, valid or not.
func bitsOf(column ...int) impl.Bits {
	s := impl.Bits{Score: column[len(column)-1], Len: len(column) - 1}
	for i := range s.Len {
		switch column[i+1] - column[i] {
		case 1:
			s.Pv |= 1 << i
		case -1:
			s.Mv |= 1 << i
		case 0:
		default:
			panic(fmt.Sprint("not a column: ", column))
		}
	}
	return s
}

// follow returns the following column by the document's rule, element by element.
func follow(d []int, eq uint64) []int {
	e := []int{d[0] + 1}
	for i := range len(d) - 1 {
		across := d[i]
		if !bitOf(eq, i) {
			across++
		}
		e = append(e, min(e[i]+1, d[i+1]+1, across))
	}
	return e
}

// anyColumn returns a random walk of n + 1 elements in 0..topElement, which often stays at its ends.
func anyColumn(r *rand.Rand, n int) []int {
	column := []int{[]int{0, 1, topElement - 1, topElement, r.IntN(topElement + 1)}[r.IntN(5)]}
	drift := r.IntN(3)
	for i := range n {
		element := column[i] + r.IntN(3) - 1
		if drift > 0 && r.IntN(3) > 0 {
			element = column[i] + 2*drift - 3
		}
		column = append(column, max(0, min(topElement, element)))
	}
	return column
}

// wantColumn holds BitsOk and BitsColumn of a Bits against the definition.
func wantColumn(t *testing.T, s impl.Bits) {
	t.Helper()
	column, ok := modelColumn(s)
	if got := impl.BitsOk(s); got != ok {
		t.Errorf("BitsOk(%+v): %v", s, got)
	}
	if got := impl.BitsColumn(s); !slices.Equal(got, column) {
		t.Errorf("BitsColumn(%+v): %v, want %v", s, got, column)
	}
}

// fineBits asks for a valid Bits, so that a mistake in the model above can't hide one.
func fineBits(t *testing.T, column ...int) {
	t.Helper()
	s := bitsOf(column...)
	if !impl.BitsOk(s) || !slices.Equal(impl.BitsColumn(s), column) {
		t.Errorf("%+v: %v, %v, want %v", s, impl.BitsOk(s), impl.BitsColumn(s), column)
	}
	wantColumn(t, s)
	wantStep(t, s, 0)
}

// failBits asks for a Bits that is not valid.
func failBits(t *testing.T, s impl.Bits) {
	t.Helper()
	if impl.BitsOk(s) || len(impl.BitsColumn(s)) != 0 {
		t.Errorf("%+v: %v, %v", s, impl.BitsOk(s), impl.BitsColumn(s))
	}
	for _, eq := range []uint64{0, 1, 0x5555555555555555, allBits} {
		if got := impl.MyersStep(s, eq); got != (impl.Bits{}) {
			t.Errorf("MyersStep(%+v, %x): %+v", s, eq, got)
		}
	}
	wantColumn(t, s)
}

// wantStep holds MyersStep against the rule; it returns the following Bits.
func wantStep(t *testing.T, s impl.Bits, eq uint64) impl.Bits {
	t.Helper()
	want := impl.Bits{}
	if column, ok := modelColumn(s); ok {
		next := follow(column, eq)
		if slices.Max(next) <= 64 {
			want = bitsOf(next...)
		}
	}
	got := impl.MyersStep(s, eq)
	if got != want {
		t.Errorf("MyersStep(%+v, %x): %+v, want %+v", s, eq, got, want)
	}
	return got
}

// ramp returns the n + 1 elements from first on, each differing from the one ahead by step.
func ramp(first int, step int, n int) []int {
	column := make([]int, n+1)
	for i := range column {
		column[i] = first + i*step
	}
	return column
}

func TestMyersExamples(t *testing.T) {
	s := impl.Bits{Pv: 6, Mv: 1, Score: 2, Len: 3}
	if !slices.Equal(impl.BitsColumn(s), []int{1, 0, 1, 2}) || !impl.BitsOk(s) {
		t.Error("BitsColumn")
	}
	if impl.MyersPeq("aba", 'a') != 5 {
		t.Error("MyersPeq")
	}
	if impl.MyersStart("abc") != (impl.Bits{Pv: 7, Score: 3, Len: 3}) {
		t.Error("MyersStart")
	}
	if impl.MyersStep(impl.MyersStart("abc"), impl.MyersPeq("abc", 'a')) != s {
		t.Error("MyersStep")
	}
	if impl.MyersRun("abc", "abd") != 1 || impl.MyersPadded(impl.Pad("ab"), impl.Pad("ba")) != 2 {
		t.Error("MyersRun, MyersPadded")
	}
}

func TestBitsOfAnyLen(t *testing.T) {
	for n := 0; n <= impl.MaxWord; n++ {
		fineBits(t, ramp(0, 1, n)...)
		fineBits(t, ramp(n, -1, n)...)
		fineBits(t, ramp(0, 0, n)...)
		fineBits(t, ramp(topElement-n, 1, n)...)
		fineBits(t, ramp(topElement, -1, n)...)
		fineBits(t, ramp(topElement, 0, n)...)
	}
	for _, n := range []int{-1, -2, -32, -33, -64, math.MinInt, math.MinInt + 1, 33, 34, 63, 64, 65, 128, 1 << 31, 1 << 32, 1<<32 + 1, math.MaxInt - 1, math.MaxInt} {
		for _, score := range []int{0, 1, 32, 33, 64} {
			failBits(t, impl.Bits{Len: n, Score: score})
			failBits(t, impl.Bits{Len: n, Score: score, Pv: 1})
			failBits(t, impl.Bits{Len: n, Score: score, Mv: 1})
		}
	}
	failBits(t, impl.Bits{Len: 33, Score: 33, Pv: 1<<33 - 1})
	failBits(t, impl.Bits{Len: 64, Score: 64, Pv: allBits})
	if !impl.BitsOk(impl.Bits{}) || !slices.Equal(impl.BitsColumn(impl.Bits{}), []int{0}) {
		t.Error("the zero value")
	}
}

// TestBitsAtTheLengthAndAbove sets each bit that no column of this Len has, and each that it has.
func TestBitsAtTheLengthAndAbove(t *testing.T) {
	for n := 0; n <= impl.MaxWord; n++ {
		for i := range 64 {
			bit := uint64(1) << i
			for _, s := range []impl.Bits{{Pv: bit, Score: 1}, {Pv: bit, Score: 33}, {Mv: bit}, {Mv: bit, Score: 33}, {Mv: bit, Score: 63}} {
				s.Len = n
				wantColumn(t, s)
				if impl.BitsOk(s) != (i < n) {
					t.Errorf("BitsOk(%+v): %v", s, i >= n)
				}
				if i >= n {
					failBits(t, s)
				}
			}
			failBits(t, impl.Bits{Pv: bit, Mv: bit, Score: 33, Len: n})
			if i >= n {
				failBits(t, impl.Bits{Pv: impl.MaskLow(n) | bit, Score: 33, Len: n})
				failBits(t, impl.Bits{Mv: impl.MaskLow(n) | bit, Score: 1, Len: n})
			}
		}
		failBits(t, impl.Bits{Pv: allBits, Score: 33, Len: n})
		failBits(t, impl.Bits{Mv: allBits, Score: 33, Len: n})
		failBits(t, impl.Bits{Pv: allBits << n, Score: 33, Len: n})
		failBits(t, impl.Bits{Mv: allBits << n, Score: 33, Len: n})
	}
}

func TestBitsInCommon(t *testing.T) {
	r := rand.New(rand.NewPCG(61, 62))
	for range 500 {
		n := 1 + r.IntN(impl.MaxWord)
		s := bitsOf(anyColumn(r, n)...)
		both := uint64(1) << r.IntN(n)
		failBits(t, impl.Bits{Pv: s.Pv | both, Mv: s.Mv | both, Score: s.Score, Len: n})
	}
	low := impl.MaskLow(32)
	failBits(t, impl.Bits{Pv: low, Mv: low, Score: 32, Len: 32})
	failBits(t, impl.Bits{Pv: 3, Mv: 2, Score: 5, Len: 2})
	failBits(t, impl.Bits{Pv: 1, Mv: 3, Score: 5, Len: 2})
	failBits(t, impl.Bits{Pv: allBits, Mv: allBits, Score: 5, Len: 0})
}

func TestBitsWithElementsOutOfRange(t *testing.T) {
	fineBits(t, 1, 0, 1)
	fineBits(t, 63, 64, 63)
	for _, column := range [][]int{
		{-1}, {65}, {-1, 0}, {0, -1}, {64, 65}, {65, 64}, {-1, -1}, {65, 65},
		{0, -1, 0}, {64, 65, 64}, {1, 0, -1, 0, 1}, {63, 64, 65, 64, 63}, {0, 0, -1, -1, 0}, {64, 64, 65, 65, 64},
		{-1, 0, 1, 2}, {65, 64, 63, 62}, {0, 1, 0, -1}, {64, 63, 64, 65},
	} {
		failBits(t, bitsOf(column...))
	}
	for n := 1; n <= impl.MaxWord; n++ {
		failBits(t, bitsOf(ramp(-1, 1, n)...))
		failBits(t, bitsOf(ramp(n-1, -1, n)...))
		failBits(t, bitsOf(ramp(topElement-n+1, 1, n)...))
		failBits(t, bitsOf(ramp(topElement+1, -1, n)...))
	}
	// A single element in the middle, or at an end, of the longest column.
	for at := 0; at <= impl.MaxWord; at++ {
		low, high := ramp(0, 0, 32), ramp(topElement, 0, 32)
		low[at], high[at] = 1, topElement-1
		fineBits(t, low...)
		fineBits(t, high...)
		low[at], high[at] = -1, topElement+1
		failBits(t, bitsOf(low...))
		failBits(t, bitsOf(high...))
	}
}

func TestBitsWithAnyScore(t *testing.T) {
	ends := []int{math.MinInt, math.MinInt + 1, math.MinInt + 32, math.MinInt + 64, -1 << 32, -65, -64, -33, -32, -2, -1}
	ends = append(ends, 65, 66, 96, 97, 128, 256, 1<<31, 1<<32, 1<<32+1, math.MaxInt-64, math.MaxInt-32, math.MaxInt-1, math.MaxInt)
	for _, score := range ends {
		for _, n := range []int{0, 1, 2, 31, 32} {
			low := impl.MaskLow(n)
			failBits(t, impl.Bits{Score: score, Len: n})
			failBits(t, impl.Bits{Pv: low, Score: score, Len: n})
			failBits(t, impl.Bits{Mv: low, Score: score, Len: n})
			failBits(t, impl.Bits{Pv: low & 0x5555555555555555, Mv: low & 0xaaaaaaaaaaaaaaaa, Score: score, Len: n})
		}
	}
	for score := -2; score <= topElement+2; score++ {
		wantColumn(t, impl.Bits{Score: score})
		if impl.BitsOk(impl.Bits{Score: score}) != (score >= 0 && score <= 64) {
			t.Errorf("BitsOk of the column [%d]", score)
		}
	}
}

// TestBitsOfShortColumns goes through all Bits of a few bits, valid or not.
func TestBitsOfShortColumns(t *testing.T) {
	for n := -1; n <= 4; n++ {
		for pv := range uint64(32) {
			for mv := range uint64(32) {
				for _, score := range []int{-1, 0, 1, 2, 3, 4, 5, 60, 61, 62, 63, 64, 65} {
					wantColumn(t, impl.Bits{Pv: pv, Mv: mv, Score: score, Len: n})
				}
			}
		}
	}
}

func TestBitsOfLongColumns(t *testing.T) {
	r := rand.New(rand.NewPCG(63, 64))
	for range 3000 {
		column := anyColumn(r, r.IntN(impl.MaxWord+1))
		fineBits(t, column...)
		s := bitsOf(column...)
		s.Score += r.IntN(9) - 4
		wantColumn(t, s)
		s.Pv ^= 1 << r.IntN(64)
		wantColumn(t, s)
		s.Mv ^= 1 << r.IntN(64)
		wantColumn(t, s)
	}
}

func TestBitsColumnIsNew(t *testing.T) {
	s := impl.Bits{Pv: 6, Mv: 1, Score: 2, Len: 3}
	a, b := impl.BitsColumn(s), impl.BitsColumn(s)
	spoil(a)
	if want := []int{1, 0, 1, 2}; !slices.Equal(b, want) || !slices.Equal(impl.BitsColumn(s), want) {
		t.Error("two columns share memory")
	}
}

// wantPeq asks for the places of every byte in p.
func wantPeq(t *testing.T, p string) {
	t.Helper()
	for v := range 256 {
		got := impl.MyersPeq(p, byte(v))
		for i := range 64 {
			if bitOf(got, i) != (i < len(p) && p[i] == byte(v)) {
				t.Errorf("MyersPeq(%q, %d): bit %d of %x", p, v, i, got)
			}
		}
	}
}

func TestMyersPeq(t *testing.T) {
	for n := 0; n <= impl.MaxWord; n++ {
		wantPeq(t, wordOfLen(n))
		wantPeq(t, strings.Repeat("a", n))
		wantPeq(t, strings.Repeat("\x00", n))
		wantPeq(t, strings.Repeat("\xff", n))
	}
	for _, p := range []string{"", "aba", "aA", "a\x00b\xff", "\x00\xff\x00\xff", "é", "\xc3", " a b ", "\x61\xe1"} {
		wantPeq(t, p)
	}
	r := rand.New(rand.NewPCG(65, 66))
	for range 100 {
		wantPeq(t, anyString(r, "ab", impl.MaxWord))
		wantPeq(t, anyString(r, "\x00\x01\x7f\x80\xff", impl.MaxWord))
	}
	for b, want := range map[byte]uint64{'a': 1<<32 - 1, 'b': 0, 0: 0, 255: 0} {
		if got := impl.MyersPeq(strings.Repeat("a", 32), b); got != want {
			t.Errorf("32 times a, byte %d: %x", b, got)
		}
	}
}

func TestMyersPeqOfLongStrings(t *testing.T) {
	for _, n := range []int{33, 34, 63, 64, 65, 128, 256, 257, 288, 1000, 65536} {
		for _, x := range []byte{'a', 'z', 0, 255} {
			p := strings.Repeat(string([]byte{x}), n)
			for _, b := range []byte{x, 'b', 0, 255} {
				if got := impl.MyersPeq(p, b); got != 0 {
					t.Errorf("%d times the byte %d, byte %d: %x", n, x, b, got)
				}
			}
		}
		if impl.MyersPeq(wordOfLen(n), 'a') != 0 {
			t.Errorf("%d letters", n)
		}
	}
}

func TestMyersStart(t *testing.T) {
	for n := 0; n <= impl.MaxWord; n++ {
		want := bitsOf(ramp(0, 1, n)...)
		for _, p := range []string{wordOfLen(n), strings.Repeat("a", n), strings.Repeat("\x00", n), strings.Repeat("\xff", n)} {
			got := impl.MyersStart(p)
			if got != want || !impl.BitsOk(got) || !slices.Equal(impl.BitsColumn(got), ramp(0, 1, n)) {
				t.Errorf("MyersStart(%q): %+v, want %+v", p, got, want)
			}
		}
	}
	if impl.MyersStart("") != (impl.Bits{}) || impl.MyersStart(wordOfLen(32)) != (impl.Bits{Pv: 1<<32 - 1, Score: 32, Len: 32}) {
		t.Error("MyersStart at the ends")
	}
	if got := impl.MyersStart(strings.Repeat("é", 16)); got.Len != 32 {
		t.Errorf("MyersStart of 16 letters of two bytes: %+v", got)
	}
	for _, n := range []int{33, 34, 63, 64, 65, 128, 256, 257, 288, 1000, 65536} {
		for _, p := range []string{wordOfLen(n), strings.Repeat("\x00", n), strings.Repeat("\xff", n)} {
			if got := impl.MyersStart(p); got != (impl.Bits{}) {
				t.Errorf("MyersStart of %d bytes: %+v", n, got)
			}
		}
	}
}

// TestMyersStepOfShortColumns goes through all valid columns of a few elements near both ends of their
// range, with all bits of eq.
func TestMyersStepOfShortColumns(t *testing.T) {
	for n := range 5 {
		for pv := range uint64(1) << n {
			for mv := range uint64(1) << n {
				if pv&mv != 0 {
					continue
				}
				for _, score := range []int{0, 1, 2, 3, 4, 32, 60, 61, 62, 63, 64} {
					for eq := range uint64(1) << n {
						wantStep(t, impl.Bits{Pv: pv, Mv: mv, Score: score, Len: n}, eq)
					}
				}
			}
		}
	}
}

func TestMyersStepOfLongColumns(t *testing.T) {
	r := rand.New(rand.NewPCG(67, 68))
	for i := range 20000 {
		n := r.IntN(impl.MaxWord + 1)
		if i%4 == 0 {
			n = impl.MaxWord
		}
		s := bitsOf(anyColumn(r, n)...)
		eq := r.Uint64()
		switch r.IntN(4) {
		case 0:
			eq &= r.Uint64() & r.Uint64()
		case 1:
			eq |= r.Uint64() | r.Uint64()
		}
		wantStep(t, s, eq)
		if t.Failed() {
			return
		}
	}
}

// TestMyersStepIgnoresHighBits changes the bits of eq at index Len and above, one by one and together.
func TestMyersStepIgnoresHighBits(t *testing.T) {
	r := rand.New(rand.NewPCG(69, 70))
	for n := 0; n <= impl.MaxWord; n++ {
		columns := [][]int{ramp(0, 1, n), ramp(n, -1, n), ramp(7, 0, n), anyColumn(r, n), anyColumn(r, n), anyColumn(r, n)}
		for _, column := range columns {
			s := bitsOf(column...)
			for _, low := range []uint64{0, impl.MaskLow(n), r.Uint64() & impl.MaskLow(n)} {
				want := wantStep(t, s, low)
				for i := n; i < 64; i++ {
					if got := impl.MyersStep(s, low|1<<i); got != want {
						t.Errorf("MyersStep(%+v, %x): %+v, without bit %d: %+v", s, low|1<<i, got, i, want)
					}
				}
				if got := impl.MyersStep(s, low|allBits<<n); got != want {
					t.Errorf("MyersStep(%+v, %x): %+v, without the high bits: %+v", s, low|allBits<<n, got, want)
				}
			}
		}
	}
}

func TestMyersStepOfLenZero(t *testing.T) {
	for score := range topElement {
		for _, eq := range []uint64{0, 1, 2, 1 << 32, 1 << 63, allBits} {
			if got := impl.MyersStep(impl.Bits{Score: score}, eq); got != (impl.Bits{Score: score + 1}) {
				t.Errorf("MyersStep of the column [%d]: %+v", score, got)
			}
		}
	}
	if got := impl.MyersStep(impl.Bits{Score: topElement}, 0); got != (impl.Bits{}) {
		t.Errorf("MyersStep of the column [64]: %+v", got)
	}
}

func TestMyersStepOfLenMaxWord(t *testing.T) {
	start := impl.MyersStart(wordOfLen(32))
	known := []struct {
		eq   uint64
		want []int
	}{
		{0, append([]int{1}, ramp(1, 1, 31)...)},
		{1, append([]int{1}, ramp(0, 1, 31)...)},
		{1 << 31, append(append([]int{1}, ramp(1, 1, 30)...), 31)},
		{1 << 32, append([]int{1}, ramp(1, 1, 31)...)},
		{1<<32 - 1, append([]int{1}, ramp(0, 1, 31)...)},
		{allBits, append([]int{1}, ramp(0, 1, 31)...)},
	}
	for _, x := range known {
		got := impl.MyersStep(start, x.eq)
		if got.Len != 32 || !slices.Equal(impl.BitsColumn(got), x.want) {
			t.Errorf("eq %x: %v, want %v", x.eq, impl.BitsColumn(got), x.want)
		}
		wantStep(t, start, x.eq)
		wantStep(t, bitsOf(ramp(32, -1, 32)...), x.eq)
		wantStep(t, bitsOf(ramp(64, -1, 32)...), x.eq)
	}
}

// TestMyersStepBeyondTheRange takes valid columns whose following column has an element 65.
func TestMyersStepBeyondTheRange(t *testing.T) {
	beyond := []struct {
		column []int
		eq     uint64
	}{
		{[]int{64}, 0},
		{[]int{64, 64}, 0},
		{[]int{64, 64}, 3},
		{[]int{64, 63}, 1},
		{[]int{64, 63, 62, 61}, 7},
		// Here the first element remains in the range, and in the last two also the last one.
		{[]int{63, 64, 64}, 0},
		{[]int{63, 64, 64, 64}, 0},
		{[]int{63, 64, 64, 63, 62}, 0},
		{[]int{63, 64, 64, 64, 64}, 8},
	}
	for _, x := range beyond {
		s := bitsOf(x.column...)
		if !impl.BitsOk(s) || slices.Max(follow(x.column, x.eq)) != 65 {
			t.Fatalf("the test's own column: %v", x.column)
		}
		if got := impl.MyersStep(s, x.eq); got != (impl.Bits{}) {
			t.Errorf("MyersStep of %v with %d: %+v", x.column, x.eq, got)
		}
	}
	for n := 0; n <= impl.MaxWord; n++ {
		for _, eq := range []uint64{0, 1, impl.MaskLow(n), allBits} {
			if got := impl.MyersStep(bitsOf(ramp(64, -1, n)...), eq); got != (impl.Bits{}) {
				t.Errorf("MyersStep of %d elements from 64 down: %+v", n+1, got)
			}
		}
	}
	// As near to the end of the range, but not beyond it.
	for _, column := range [][]int{{63, 64}, {63, 64, 63}, {63, 63, 64}, {62, 63, 64, 64}} {
		got := wantStep(t, bitsOf(column...), 4)
		if got.Len != len(column)-1 || slices.Max(impl.BitsColumn(got)) != 64 {
			t.Errorf("MyersStep of %v: %+v", column, got)
		}
	}
	got := impl.MyersStep(bitsOf(63, 64, 64), 2)
	if !slices.Equal(impl.BitsColumn(got), []int{64, 64, 64}) {
		t.Errorf("MyersStep of 63, 64, 64 with an equal last byte: %+v", got)
	}
}

// TestMyersStepUntilTheEnd takes steps until the first element would exceed the range.
func TestMyersStepUntilTheEnd(t *testing.T) {
	r := rand.New(rand.NewPCG(71, 72))
	for n := 0; n <= impl.MaxWord; n++ {
		s := impl.MyersStart(wordOfLen(n))
		for i := range topElement {
			s = wantStep(t, s, r.Uint64())
			if column := impl.BitsColumn(s); len(column) != n+1 || column[0] != i+1 {
				t.Fatalf("%d letters, after step %d: %+v", n, i+1, s)
			}
		}
		if got := wantStep(t, s, r.Uint64()); got != (impl.Bits{}) {
			t.Errorf("%d letters, one step too many: %+v", n, got)
		}
	}
}

// wantRun holds MyersRun against Distance, and each column on the way against the distances of all prefixes.
func wantRun(t *testing.T, p string, w string) {
	t.Helper()
	if got, want := impl.MyersRun(p, w), impl.Distance(p, w); got != want {
		t.Errorf("MyersRun(%q, %q): %d, want %d", p, w, got, want)
	}
	s := impl.MyersStart(p)
	for n := 0; n <= len(w); n++ {
		if n > 0 {
			s = impl.MyersStep(s, impl.MyersPeq(p, w[n-1]))
		}
		column := impl.BitsColumn(s)
		if len(column) != len(p)+1 {
			t.Fatalf("%q after %q: the column is %v", p, w[:n], column)
		}
		for i := range column {
			if want := impl.Distance(p[:i], w[:n]); column[i] != want {
				t.Fatalf("%q after %q: element %d of %v, want %d", p, w[:n], i, column, want)
			}
		}
	}
	if got := impl.MyersRun(p, w); got != s.Score {
		t.Errorf("MyersRun(%q, %q): %d, the last column ends with %d", p, w, got, s.Score)
	}
}

func TestMyersRunOfKnownStrings(t *testing.T) {
	known := []struct {
		p, t string
		want int
	}{
		{"", "", 0}, {"a", "", 1}, {"", "a", 1}, {"a", "a", 0}, {"a", "b", 1}, {"ab", "ba", 2}, {"", "ab", 2}, {"ab", "", 2},
		{"abc", "abd", 1}, {"kitten", "sitting", 3}, {"sitting", "kitten", 3}, {"saturday", "sunday", 3}, {"flaw", "lawn", 2},
		{"aA", "AA", 1}, {"\x00", "", 1}, {"\x00", "\xff", 1}, {"é", "e", 2}, {"é", "è", 1}, {"a b", "ab", 1},
		{strings.Repeat("a", 32), "", 32}, {"", strings.Repeat("a", 32), 32}, {strings.Repeat("a", 32), strings.Repeat("b", 32), 32},
		{strings.Repeat("a", 32), strings.Repeat("a", 32), 0}, {strings.Repeat("ab", 16), strings.Repeat("ba", 16), 2},
	}
	for _, x := range known {
		if got := impl.MyersRun(x.p, x.t); got != x.want {
			t.Errorf("MyersRun(%q, %q): %d, want %d", x.p, x.t, got, x.want)
		}
		wantRun(t, x.p, x.t)
	}
}

func TestMyersRunOfShortStrings(t *testing.T) {
	for _, list := range [][]string{stringsOf("ab", 4), stringsOf("abc", 3), stringsOf("\x00z\xff", 3), stringsOf("aA ", 3)} {
		for _, p := range list {
			for _, w := range list {
				wantRun(t, p, w)
			}
		}
	}
}

func TestMyersRunOfLongStrings(t *testing.T) {
	r := rand.New(rand.NewPCG(73, 74))
	for range 3000 {
		letters := []string{"a", "ab", "abcd", alphabet, "\x00\x01\x80\xff"}[r.IntN(5)]
		p := anyString(r, letters, impl.MaxWord)
		near, other := nearString(r, letters, p, impl.MaxWord), anyString(r, letters, impl.MaxWord)
		for _, w := range []string{near, other} {
			if got, want := impl.MyersRun(p, w), impl.Distance(p, w); got != want {
				t.Errorf("MyersRun(%q, %q): %d, want %d", p, w, got, want)
			}
			if got, want := impl.MyersRun(w, p), impl.Distance(w, p); got != want {
				t.Errorf("MyersRun(%q, %q): %d, want %d", w, p, got, want)
			}
		}
	}
}

func TestMyersColumnsOfLongStrings(t *testing.T) {
	r := rand.New(rand.NewPCG(75, 76))
	for range 60 {
		letters := []string{"a", "ab", "abcd", alphabet, "\x00\x01\x80\xff"}[r.IntN(5)]
		p := anyString(r, letters, impl.MaxWord)
		wantRun(t, p, nearString(r, letters, p, impl.MaxWord))
		wantRun(t, p, anyString(r, letters, impl.MaxWord))
	}
	long := strings.Repeat("ab", 16)
	wantRun(t, long, strings.Repeat("ba", 16))
	wantRun(t, long, wordOfLen(32))
	wantRun(t, long, strings.Repeat("?", 32))
	wantRun(t, wordOfLen(32), long)
}

func TestMyersRunLengths(t *testing.T) {
	lengths := []int{0, 1, 2, 7, 31, 32, 33, 34, 63, 64, 65, 255, 256, 257, 288, 1000, 65536}
	for _, m := range lengths {
		for _, n := range lengths {
			p, same, other := wordOfLen(m), wordOfLen(n), strings.Repeat("?", n)
			want, wantOther := max(m, n)-min(m, n), max(m, n)
			if m > 32 || n > 32 {
				want, wantOther = -1, -1
			}
			if got := impl.MyersRun(p, same); got != want {
				t.Errorf("MyersRun of %d and %d letters: %d, want %d", m, n, got, want)
			}
			if got := impl.MyersRun(p, other); got != wantOther {
				t.Errorf("MyersRun of %d and %d different bytes: %d, want %d", m, n, got, wantOther)
			}
			if got := impl.MyersRun(other, p); got != wantOther {
				t.Errorf("MyersRun of %d and %d different bytes: %d, want %d", n, m, got, wantOther)
			}
		}
	}
	for _, w := range []string{strings.Repeat("\x00", 33), strings.Repeat("\xff", 33), strings.Repeat("é", 17)} {
		if impl.MyersRun(w, w) != -1 || impl.MyersRun(w, "") != -1 || impl.MyersRun("", w) != -1 {
			t.Errorf("MyersRun of %d bytes", len(w))
		}
	}
}

// wantPadded asks for the distance of two words from their Pads.
func wantPadded(t *testing.T, a string, b string) {
	t.Helper()
	if got, want := impl.MyersPadded(impl.Pad(a), impl.Pad(b)), impl.Distance(a, b); got != want {
		t.Errorf("MyersPadded of %q and %q: %d, want %d", a, b, got, want)
	}
	if impl.MyersRun(a, b) != impl.MyersPadded(impl.Pad(a), impl.Pad(b)) {
		t.Errorf("%q and %q: MyersRun differs from MyersPadded", a, b)
	}
}

func TestMyersPaddedOfWords(t *testing.T) {
	short := stringsOf("abz", 3)[1:]
	for _, a := range short {
		for _, b := range short {
			wantPadded(t, a, b)
		}
	}
	for m := 1; m <= impl.MaxWord; m++ {
		for n := 1; n <= impl.MaxWord; n++ {
			wantPadded(t, wordOfLen(m), wordOfLen(n))
			wantPadded(t, wordOfLen(m), strings.Repeat("z", n))
			wantPadded(t, strings.Repeat("a", m), strings.Repeat("a", n))
		}
	}
	r := rand.New(rand.NewPCG(77, 78))
	for range 500 {
		a := "a" + anyString(r, "abc", 31)
		wantPadded(t, a, "b"+nearString(r, "abc", a, 31))
	}
}

// notPads returns slices that are not the Pad of any word.
func notPads() map[string][]byte {
	long := append(impl.Pad(wordOfLen(32)), 'a')
	long[0] = 33
	behind := impl.Pad("ab")
	behind[3] = 'c'
	last := impl.Pad("ab")
	last[32] = 1
	lastLetter := impl.Pad(wordOfLen(31))
	lastLetter[32] = 'a'
	less := impl.Pad("ab")
	less[0] = 1
	more := impl.Pad("ab")
	more[0] = 3
	far := impl.Pad(wordOfLen(32))
	far[0] = 255
	none := impl.Pad("ab")
	none[0] = 0
	upper := impl.Pad("ab")
	upper[2] = 'B'
	sign := impl.Pad("ab")
	sign[1] = '?'
	high := impl.Pad(wordOfLen(32))
	high[32] = 255
	return map[string][]byte{
		"nil":                           nil,
		"no bytes":                      {},
		"one byte less":                 impl.Pad("ab")[:32],
		"one byte more":                 append(impl.Pad("ab"), 0),
		"the word itself":               []byte("ab"),
		"only its length and letters":   {2, 'a', 'b'},
		"zero bytes":                    make([]byte, 33),
		"Pad of the empty string":       impl.Pad(""),
		"Pad of no word":                impl.Pad("a-b"),
		"two Pads":                      append(impl.Pad("ab"), impl.Pad("ab")...),
		"33 letters":                    long,
		"the length 33":                 long[:33],
		"a letter behind the end":       behind,
		"the last byte 1":               last,
		"a letter as the last byte":     lastLetter,
		"the length 1 of two letters":   less,
		"the length 3 of two letters":   more,
		"the length 255":                far,
		"the length 0 of two letters":   none,
		"a capital letter":              upper,
		"a byte that is no letter":      sign,
		"the byte 255 as the last byte": high,
	}
}

func TestMyersPaddedOfOtherBytes(t *testing.T) {
	bad := notPads()
	for what, data := range bad {
		for _, w := range []string{"a", "ab", wordOfLen(31), wordOfLen(32)} {
			if got := impl.MyersPadded(data, impl.Pad(w)); got != -1 {
				t.Errorf("%s first, %q second: %d", what, w, got)
			}
			if got := impl.MyersPadded(impl.Pad(w), data); got != -1 {
				t.Errorf("%q first, %s second: %d", w, what, got)
			}
		}
		for other, data2 := range bad {
			if got := impl.MyersPadded(data, data2); got != -1 {
				t.Errorf("%s first, %s second: %d", what, other, got)
			}
		}
	}
}

// TestMyersPaddedLeavesItsArguments asks also for the bytes behind their lengths, which are not read either.
func TestMyersPaddedLeavesItsArguments(t *testing.T) {
	p, w := append(impl.Pad("abc"), "behind"...), append(impl.Pad(wordOfLen(32)), "\xff\x00\x01"...)
	p2, w2 := bytes.Clone(p), bytes.Clone(w)
	if got := impl.MyersPadded(p[:33], w[:33]); got != 29 {
		t.Errorf("with bytes behind the lengths: %d", got)
	}
	if got := impl.MyersPadded(p[:33], p[:33]); got != 0 {
		t.Errorf("one slice twice: %d", got)
	}
	if impl.MyersPadded(p, w[:33]) != -1 || impl.MyersPadded(p[:33], w) != -1 || impl.MyersPadded(p[:0], w[:32]) != -1 {
		t.Error("other lengths")
	}
	if !bytes.Equal(p, p2) || !bytes.Equal(w, w2) {
		t.Error("an argument is modified")
	}
}

// TestMyersKeepsNothing asks for the same results in another order, after other calls.
func TestMyersKeepsNothing(t *testing.T) {
	r := rand.New(rand.NewPCG(79, 80))
	type answer struct {
		p, t string
		s    impl.Bits
		dist int
	}
	var list []answer
	for range 300 {
		p, w := anyString(r, "abc", impl.MaxWord), anyString(r, "abc", impl.MaxWord)
		list = append(list, answer{p, w, impl.MyersStep(impl.MyersStart(p), impl.MyersPeq(p, 'a')), impl.MyersRun(p, w)})
	}
	r.Shuffle(len(list), func(i int, j int) { list[i], list[j] = list[j], list[i] })
	for _, x := range list {
		impl.MyersRun(wordOfLen(33), x.t)
		impl.MyersStep(impl.Bits{Len: 33}, allBits)
		if impl.MyersRun(x.p, x.t) != x.dist || impl.MyersStep(impl.MyersStart(x.p), impl.MyersPeq(x.p, 'a')) != x.s {
			t.Fatalf("%q and %q: other results than before", x.p, x.t)
		}
	}
}
