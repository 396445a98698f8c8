package tests

import (
	"bytes"
	"math"
	"math/big"
	"math/rand/v2"
	"slices"
	"testing"

	"loop.example/g00663/impl"
)

const allBits uint64 = 18446744073709551615

// someNumbers returns numbers at the ends of the range, single bits, their neighbours, and others.
func someNumbers() []uint64 {
	list := []uint64{0, 1, 2, 3, 5, 255, 256, 0xaaaaaaaaaaaaaaaa, 0x5555555555555555, 0x0123456789abcdef, allBits - 1, allBits}
	for i := range 64 {
		bit := uint64(1) << i
		list = append(list, bit, bit-1, bit+1, ^bit)
	}
	r := rand.New(rand.NewPCG(5, 6))
	for range 60 {
		list = append(list, r.Uint64(), r.Uint64()>>r.IntN(64))
	}
	return list
}

// someMasks returns the two masks of a flag and masks of arbitrary bits.
func someMasks() []uint64 {
	list := []uint64{0, allBits, 1, 12, 0x0f, 0xf0, 0x55, 0xaa, 0x80, 0xff, 0x100, 0xff00, 1 << 63, 1<<63 - 1,
		0x00000000ffffffff, 0xffffffff00000000, 0xaaaaaaaaaaaaaaaa, 0x5555555555555555, allBits - 1, allBits - 255}
	r := rand.New(rand.NewPCG(7, 8))
	for range 30 {
		list = append(list, r.Uint64())
	}
	return list
}

func bitOf(x uint64, i int) bool {
	return x>>i%2 == 1
}

// bitwise selects one bit after the other, by the words of the document.
func bitwise(mask uint64, a uint64, b uint64) uint64 {
	var x uint64
	for i := range 64 {
		if bitOf(mask, i) && bitOf(a, i) || !bitOf(mask, i) && bitOf(b, i) {
			x += 1 << i
		}
	}
	return x
}

// bytewiseSelect selects with the lowest 8 bits of a mask alone.
func bytewiseSelect(mask uint64, a []byte, b []byte) []byte {
	var list []byte
	for i, x := range a {
		list = append(list, byte(bitwise(mask%256, uint64(x), uint64(b[i]))))
	}
	return list
}

// someBytes returns n bytes with no short period.
func someBytes(n int, seed uint64) []byte {
	r := rand.New(rand.NewPCG(seed, uint64(n)))
	list := make([]byte, n)
	for i := range list {
		list[i] = byte(r.IntN(256))
	}
	return list
}

func TestMaskExamples(t *testing.T) {
	if impl.MaxBytes != 4096 {
		t.Error("MaxBytes")
	}
	if impl.MaskLess(3, 4) != 18446744073709551615 || impl.MaskEq(3, 4) != 0 || impl.MaskLow(3) != 7 {
		t.Error("masks")
	}
	if impl.Select(12, 10, 5) != 9 {
		t.Error("Select")
	}
	if a, b := impl.SwapIf(allBits, 1, 2); a != 2 || b != 1 {
		t.Error("SwapIf")
	}
	if impl.BitCount(255) != 8 || impl.LowBit(40) != 3 || impl.LowBit(0) != 64 {
		t.Error("bits")
	}
	if a, b := impl.BytesSwap(allBits, []byte("ab"), []byte("xy")); string(a) != "xy" || string(b) != "ab" {
		t.Error("BytesSwap")
	}
}

func wantMask(t *testing.T, what string, a uint64, b uint64, got uint64, flag bool) {
	t.Helper()
	want := uint64(0)
	if flag {
		want = allBits
	}
	if got != want {
		t.Errorf("%s(%d, %d): %d", what, a, b, got)
	}
}

// wantOrder asks for both masks of two numbers, in both orders.
func wantOrder(t *testing.T, a uint64, b uint64) {
	t.Helper()
	// The order comes from numbers of any size, where nothing wraps round.
	order := new(big.Int).SetUint64(a).Cmp(new(big.Int).SetUint64(b))
	wantMask(t, "MaskEq", a, b, impl.MaskEq(a, b), order == 0)
	wantMask(t, "MaskEq", b, a, impl.MaskEq(b, a), order == 0)
	wantMask(t, "MaskLess", a, b, impl.MaskLess(a, b), order < 0)
	wantMask(t, "MaskLess", b, a, impl.MaskLess(b, a), order > 0)
}

func TestMasksOfTwoNumbers(t *testing.T) {
	list := someNumbers()
	for _, a := range list {
		for _, b := range list {
			wantOrder(t, a, b)
		}
	}
}

func TestMasksOfNumbersThatDifferInOneBit(t *testing.T) {
	for _, a := range someNumbers() {
		wantOrder(t, a, a)
		for i := range 64 {
			wantOrder(t, a, a^1<<i)
		}
	}
}

func TestMasksOfTheLeastAndTheGreatestNumber(t *testing.T) {
	if impl.MaskEq(0, 0) != allBits || impl.MaskEq(allBits, allBits) != allBits || impl.MaskEq(0, allBits) != 0 || impl.MaskEq(allBits, 0) != 0 {
		t.Error("MaskEq")
	}
	if impl.MaskLess(0, 0) != 0 || impl.MaskLess(allBits, allBits) != 0 || impl.MaskLess(0, allBits) != allBits || impl.MaskLess(allBits, 0) != 0 {
		t.Error("MaskLess")
	}
}

func TestMaskLow(t *testing.T) {
	for n := 0; n <= 64; n++ {
		got := impl.MaskLow(n)
		for i := range 64 {
			if bitOf(got, i) != (i < n) {
				t.Errorf("MaskLow(%d): bit %d of %x", n, i, got)
			}
		}
		if impl.BitCount(got) != n {
			t.Errorf("MaskLow(%d) has %d bits", n, impl.BitCount(got))
		}
	}
	if impl.MaskLow(0) != 0 || impl.MaskLow(1) != 1 || impl.MaskLow(63) != 1<<63-1 || impl.MaskLow(64) != allBits {
		t.Error("MaskLow at the ends")
	}
}

func TestMaskLowOutOfRange(t *testing.T) {
	for _, n := range []int{65, 66, 99, 127, 128, 129, 255, 256, 1 << 31, 1 << 32, 1<<32 + 1, 1 << 62, math.MaxInt - 1, math.MaxInt} {
		if got := impl.MaskLow(n); got != allBits {
			t.Errorf("MaskLow(%d): %d", n, got)
		}
	}
	for _, n := range []int{-1, -2, -63, -64, -65, -256, -1 << 32, 1 - 1<<32, math.MinInt + 1, math.MinInt} {
		if got := impl.MaskLow(n); got != 0 {
			t.Errorf("MaskLow(%d): %d", n, got)
		}
	}
}

func TestSelectAndSwapIf(t *testing.T) {
	list := someNumbers()
	for _, mask := range someMasks() {
		for i, a := range list {
			b := list[len(list)-1-i]
			if got := impl.Select(mask, a, b); got != bitwise(mask, a, b) {
				t.Fatalf("Select(%x, %x, %x): %x", mask, a, b, got)
			}
			x, y := impl.SwapIf(mask, a, b)
			if x != bitwise(mask, b, a) || y != bitwise(mask, a, b) {
				t.Fatalf("SwapIf(%x, %x, %x): %x, %x", mask, a, b, x, y)
			}
			if c, d := impl.SwapIf(mask, x, y); c != a || d != b {
				t.Fatalf("SwapIf(%x, %x, %x) twice: %x, %x", mask, a, b, c, d)
			}
			if x, y := impl.SwapIf(mask, a, a); x != a || y != a || impl.Select(mask, a, a) != a {
				t.Fatalf("Select and SwapIf of %x and itself by %x", a, mask)
			}
		}
	}
}

func TestSelectAndSwapIfByAFlag(t *testing.T) {
	for _, a := range someNumbers() {
		for _, b := range []uint64{0, 1, 0x0123456789abcdef, 1 << 63, allBits} {
			if impl.Select(0, a, b) != b || impl.Select(allBits, a, b) != a {
				t.Errorf("Select of %x and %x", a, b)
			}
			if x, y := impl.SwapIf(0, a, b); x != a || y != b {
				t.Errorf("SwapIf(0, %x, %x): %x, %x", a, b, x, y)
			}
			if x, y := impl.SwapIf(allBits, a, b); x != b || y != a {
				t.Errorf("SwapIf(all, %x, %x): %x, %x", a, b, x, y)
			}
		}
	}
}

func TestPutInOrderAndBack(t *testing.T) {
	list := someNumbers()
	for _, a := range list {
		for _, b := range list {
			mask := impl.MaskLess(b, a)
			low, high := impl.SwapIf(mask, a, b)
			if low != min(a, b) || high != max(a, b) {
				t.Fatalf("%d and %d in order: %d, %d", a, b, low, high)
			}
			if c, d := impl.SwapIf(mask, low, high); c != a || d != b {
				t.Fatalf("%d and %d back: %d, %d", a, b, c, d)
			}
		}
	}
}

func TestBitCountAndLowBit(t *testing.T) {
	if impl.BitCount(0) != 0 || impl.BitCount(allBits) != 64 || impl.LowBit(0) != 64 || impl.LowBit(allBits) != 0 {
		t.Error("no bit and all bits")
	}
	for i := range 64 {
		bit := uint64(1) << i
		if impl.BitCount(bit) != 1 || impl.LowBit(bit) != i || impl.BitCount(^bit) != 63 || impl.LowBit(allBits<<i) != i {
			t.Errorf("bit %d: %d, %d, %d, %d", i, impl.BitCount(bit), impl.LowBit(bit), impl.BitCount(^bit), impl.LowBit(allBits<<i))
		}
	}
	for _, x := range someNumbers() {
		count, low := 0, 64
		for i := range 64 {
			if bitOf(x, 63-i) {
				count, low = count+1, 63-i
			}
		}
		if impl.BitCount(x) != count || impl.LowBit(x) != low {
			t.Errorf("%x: BitCount %d, LowBit %d", x, impl.BitCount(x), impl.LowBit(x))
		}
	}
}

// wantBytesEq asks in both orders.
func wantBytesEq(t *testing.T, what string, a []byte, b []byte, flag bool) {
	t.Helper()
	n, m := uint64(len(a)), uint64(len(b))
	wantMask(t, "BytesEq, "+what, n, m, impl.BytesEq(a, b), flag)
	wantMask(t, "BytesEq, "+what, m, n, impl.BytesEq(b, a), flag)
}

func TestBytesEqOfSameBytes(t *testing.T) {
	for _, n := range []int{0, 1, 2, 7, 8, 9, 33, 64, 255, impl.MaxBytes - 1, impl.MaxBytes} {
		a := someBytes(n, 1)
		wantBytesEq(t, "copied", a, slices.Clone(a), true)
		wantBytesEq(t, "one list", a, a, true)
		wantBytesEq(t, "zero bytes", make([]byte, n), make([]byte, n), true)
	}
	// The limit MaxBytes is one of BytesSelect alone.
	long := someBytes(3*impl.MaxBytes+1, 2)
	wantBytesEq(t, "long", long, slices.Clone(long), true)
	other := slices.Clone(long)
	other[len(other)-1] ^= 1
	wantBytesEq(t, "long, last byte", long, other, false)
}

func TestBytesEqOfOtherBytes(t *testing.T) {
	for _, n := range []int{1, 2, 3, 8, 9, 33, impl.MaxBytes} {
		a := someBytes(n, 3)
		for _, i := range []int{0, n / 2, n - 1} {
			for bit := range 8 {
				b := slices.Clone(a)
				b[i] ^= 1 << bit
				wantBytesEq(t, "one bit", a, b, false)
			}
		}
	}
	wantBytesEq(t, "other order", []byte("ab"), []byte("ba"), false)
	wantBytesEq(t, "differences that cancel out", []byte{1, 2}, []byte{2, 1}, false)
	wantBytesEq(t, "same sum", []byte{128, 128}, []byte{0, 0}, false)
	wantBytesEq(t, "same differences", []byte{5, 5}, []byte{4, 4}, false)
}

func TestBytesEqOfOtherLengths(t *testing.T) {
	for _, n := range []int{1, 2, 8, impl.MaxBytes} {
		a := someBytes(n, 4)
		wantBytesEq(t, "one byte less", a, a[:n-1], false)
		wantBytesEq(t, "a zero byte more", a, append(slices.Clone(a), 0), false)
		wantBytesEq(t, "no bytes", a, nil, false)
		wantBytesEq(t, "zero bytes", make([]byte, n), make([]byte, n+1), false)
		wantBytesEq(t, "one length twice the other", a, slices.Repeat(a, 2), false)
	}
	wantBytesEq(t, "256 more", make([]byte, 1), make([]byte, 257), false)
}

func TestBytesEqOfNoBytes(t *testing.T) {
	room := []byte("ab")
	wantBytesEq(t, "nil and nil", nil, nil, true)
	wantBytesEq(t, "nil and empty", nil, []byte{}, true)
	wantBytesEq(t, "empty and empty", []byte{}, []byte{}, true)
	wantBytesEq(t, "nil and empty with room", nil, room[:0], true)
	wantBytesEq(t, "nil and a byte", nil, []byte{0}, false)
	wantBytesEq(t, "bytes behind the length", []byte("abc")[:2], []byte("abd")[:2], true)
}

// wantBytes asks for all selections of two lists of equal length, and that they swap back.
func wantBytes(t *testing.T, mask uint64, a []byte, b []byte) {
	t.Helper()
	ab, ba := bytewiseSelect(mask, a, b), bytewiseSelect(mask, b, a)
	if got := impl.BytesSelect(mask, a, b); !bytes.Equal(got, ab) {
		t.Errorf("BytesSelect by %x of %d bytes", mask, len(a))
	}
	x, y := impl.BytesSwap(mask, a, b)
	if !bytes.Equal(x, ba) || !bytes.Equal(y, ab) {
		t.Errorf("BytesSwap by %x of %d bytes", mask, len(a))
	}
	if c, d := impl.BytesSwap(mask, x, y); !bytes.Equal(c, a) || !bytes.Equal(d, b) {
		t.Errorf("BytesSwap by %x of %d bytes, twice", mask, len(a))
	}
}

// failBytes asks for selections where there are none.
func failBytes(t *testing.T, mask uint64, a []byte, b []byte) {
	t.Helper()
	x, y := impl.BytesSwap(mask, a, b)
	if n := len(impl.BytesSelect(mask, a, b)); n != 0 || len(x) != 0 || len(y) != 0 {
		t.Errorf("%d and %d bytes by %x: %d, %d and %d bytes", len(a), len(b), mask, n, len(x), len(y))
	}
}

func TestBytesByMasks(t *testing.T) {
	for _, mask := range someMasks() {
		for _, n := range []int{1, 2, 7, 8, 9, 33, 100} {
			wantBytes(t, mask, someBytes(n, 5), someBytes(n, 6))
			wantBytes(t, mask, make([]byte, n), bytes.Repeat([]byte{255}, n))
		}
		wantBytes(t, mask, []byte("same"), []byte("same"))
	}
}

func TestBytesByAFlag(t *testing.T) {
	for _, n := range []int{1, 2, 33, impl.MaxBytes} {
		a, b := someBytes(n, 7), someBytes(n, 8)
		if !bytes.Equal(impl.BytesSelect(allBits, a, b), a) || !bytes.Equal(impl.BytesSelect(0, a, b), b) {
			t.Errorf("BytesSelect of %d bytes", n)
		}
		if x, y := impl.BytesSwap(allBits, a, b); !bytes.Equal(x, b) || !bytes.Equal(y, a) {
			t.Errorf("BytesSwap of %d bytes, all bits 1", n)
		}
		if x, y := impl.BytesSwap(0, a, b); !bytes.Equal(x, a) || !bytes.Equal(y, b) {
			t.Errorf("BytesSwap of %d bytes, all bits 0", n)
		}
	}
}

func TestBytesByEachByteAndAnyHighBits(t *testing.T) {
	a, b := []byte{0x00, 0xff, 0x0f, 0x5a, 0x80, 0x01}, []byte{0xff, 0x00, 0x33, 0xa5, 0x7f, 0xfe}
	for low := range uint64(256) {
		want := bytewiseSelect(low, a, b)
		for _, high := range []uint64{0, 1 << 8, 1 << 63, 0x0123456789abcd00, allBits - 255} {
			wantBytes(t, high|low, a, b)
			if got := impl.BytesSelect(high|low, a, b); !bytes.Equal(got, want) {
				t.Errorf("BytesSelect by %x: %x, by %x: %x", high|low, got, low, want)
			}
		}
	}
	if got := impl.BytesSelect(0xffffffffffffff00, []byte("ab"), []byte("xy")); string(got) != "xy" {
		t.Errorf("all high bits: %q", got)
	}
	if got := impl.BytesSelect(0xff, []byte("ab"), []byte("xy")); string(got) != "ab" {
		t.Errorf("the lowest 8 bits: %q", got)
	}
}

func TestBytesLengths(t *testing.T) {
	for _, mask := range []uint64{0, allBits, 0x5a, 0xff00} {
		for _, n := range []int{impl.MaxBytes - 1, impl.MaxBytes} {
			wantBytes(t, mask, someBytes(n, 9), someBytes(n, 10))
		}
		for _, n := range []int{impl.MaxBytes + 1, impl.MaxBytes + 2, 2 * impl.MaxBytes, 65536 + 1} {
			failBytes(t, mask, someBytes(n, 11), someBytes(n, 12))
		}
		for _, n := range []int{1, 2, 33, impl.MaxBytes, impl.MaxBytes + 1} {
			a := someBytes(n, 13)
			for _, m := range []int{0, n - 1, n + 1, 2 * n, n + 256, impl.MaxBytes + 2} {
				failBytes(t, mask, a, someBytes(m, 14))
				failBytes(t, mask, someBytes(m, 14), a)
			}
		}
	}
}

func TestBytesOfNoBytes(t *testing.T) {
	room := []byte("ab")
	for _, mask := range someMasks() {
		failBytes(t, mask, nil, nil)
		failBytes(t, mask, nil, []byte{})
		failBytes(t, mask, []byte{}, nil)
		failBytes(t, mask, room[:0], room[:0])
		failBytes(t, mask, nil, room)
		failBytes(t, mask, room, nil)
	}
	if string(room) != "ab" {
		t.Errorf("room is modified: %q", room)
	}
}

// spoilBytes changes bytes and what an append to them reaches.
func spoilBytes(list []byte) {
	list = list[:cap(list)]
	for i := range list {
		list[i] ^= 0x77
	}
}

// wantOwnBytes spoils each list in turn and asks whether another list is changed by it.
func wantOwnBytes(t *testing.T, what string, lists ...[]byte) {
	t.Helper()
	for i := range lists {
		before := make([][]byte, len(lists))
		for j, list := range lists {
			before[j] = slices.Clone(list[:cap(list)])
		}
		spoilBytes(lists[i])
		for j, list := range lists {
			if j != i && !bytes.Equal(list[:cap(list)], before[j]) {
				t.Errorf("%s: lists %d and %d share memory", what, i, j)
			}
		}
	}
}

func TestBytesAreNew(t *testing.T) {
	for _, mask := range []uint64{0, allBits, 0x0f, 0xff00} {
		// Behind the lengths stand more bytes than ahead of them, so that an append would reach them.
		a, b := []byte("abcd123456"), []byte("wxyz345678")
		x, y := impl.BytesSwap(mask, a[:4], b[:4])
		z := impl.BytesSelect(mask, a[:4], b[:4])
		impl.BytesEq(a[:4], b[:4])
		if string(a) != "abcd123456" || string(b) != "wxyz345678" {
			t.Fatalf("arguments are modified: %q, %q", a, b)
		}
		if !bytes.Equal(z, bytewiseSelect(mask, a[:4], b[:4])) || !bytes.Equal(x, bytewiseSelect(mask, b[:4], a[:4])) || !bytes.Equal(y, z) {
			t.Errorf("by %x: %q, %q, %q", mask, x, y, z)
		}
		wantOwnBytes(t, "two slices", a, b, x, y, z, impl.BytesSelect(mask, a[:4], b[:4]))
	}
}

func TestBytesOfOneSliceAreNew(t *testing.T) {
	for _, mask := range []uint64{0, allBits, 0x0f, 0xff00} {
		a := []byte("abcd123456")
		x, y := impl.BytesSwap(mask, a[:4], a[:4])
		z := impl.BytesSelect(mask, a[:4], a[:4])
		if string(a) != "abcd123456" || string(x) != "abcd" || string(y) != "abcd" || string(z) != "abcd" {
			t.Errorf("one slice by %x: %q, %q, %q, %q", mask, a, x, y, z)
		}
		wantOwnBytes(t, "one slice", a, x, y, z)
		// A byte written to one argument would be read again as a byte of the other.
		b := []byte("abcd123456")
		v, w := impl.BytesSwap(mask, b[:4], b[1:5])
		if !bytes.Equal(v, bytewiseSelect(mask, []byte("bcd1"), []byte("abcd"))) || !bytes.Equal(w, bytewiseSelect(mask, []byte("abcd"), []byte("bcd1"))) {
			t.Errorf("overlap by %x: %q, %q", mask, v, w)
		}
		if string(b) != "abcd123456" {
			t.Errorf("overlap: argument is modified: %q", b)
		}
		wantOwnBytes(t, "overlap", b, v, w)
	}
}

func TestBytesSwappedBack(t *testing.T) {
	r := rand.New(rand.NewPCG(9, 10))
	for i := range 400 {
		n := r.IntN(200)
		wantBytes(t, r.Uint64(), someBytes(n, uint64(2*i)), someBytes(n, uint64(2*i+1)))
	}
}
