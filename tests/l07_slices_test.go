package tests

import (
	"fmt"
	"math"
	"math/rand/v2"
	"slices"
	"strings"
	"testing"

	"loop.example/g00663/impl"
)

// modelNums returns numbers in planes bit by bit, and whether they are in the range of NumsOf.
func modelNums(list []int, k int) ([]uint64, bool) {
	if len(list) > 64 || k < 0 || k > 16 {
		return nil, false
	}
	power := 1
	var nums []uint64
	for range k {
		var plane uint64
		for lane, n := range list {
			if n/power%2 == 1 {
				plane |= 1 << lane
			}
		}
		nums = append(nums, plane)
		power *= 2
	}
	for _, n := range list {
		if n < 0 || n >= power {
			return nil, false
		}
	}
	return nums, true
}

// modelNum returns the number of a lane, for any number of planes below 63.
func modelNum(nums []uint64, lane int) int {
	n := 0
	for i := len(nums) - 1; i >= 0; i-- {
		n *= 2
		if bitOf(nums[i], lane) {
			n++
		}
	}
	return n
}

// modelPlanes returns the planes of strings bit by bit, and whether all of them are words or empty.
func modelPlanes(words []string) (impl.Planes, bool) {
	if len(words) > 64 {
		return impl.Planes{}, false
	}
	s := impl.Planes{Count: len(words), Len: make([]uint64, 6), Letters: make([]uint64, 160)}
	for lane, w := range words {
		if len(w) > 32 {
			return impl.Planes{}, false
		}
		for i := range 6 {
			s.Len[i] |= uint64(len(w)>>i) % 2 << lane
		}
		for p := range len(w) {
			number := strings.IndexByte("?"+alphabet, w[p])
			if number < 1 {
				return impl.Planes{}, false
			}
			for i := range 5 {
				s.Letters[5*p+i] |= uint64(number>>i) % 2 << lane
			}
		}
	}
	return s, true
}

// modelWords returns the strings of planes by the meaning of each lane, and whether the planes are those of strings.
func modelWords(s impl.Planes) ([]string, bool) {
	if s.Count < 0 || s.Count > 64 || len(s.Len) != 6 || len(s.Letters) != 160 {
		return nil, false
	}
	var list []string
	for lane := range 64 {
		length := modelNum(s.Len, lane)
		if length > 32 || length > 0 && lane >= s.Count {
			return nil, false
		}
		w := ""
		for p := range 32 {
			number := modelNum(s.Letters[5*p:5*p+5], lane)
			if p < length && (number < 1 || number > 26) || p >= length && number > 0 {
				return nil, false
			}
			if p < length {
				w += alphabet[number-1 : number]
			}
		}
		if lane < s.Count {
			list = append(list, w)
		}
	}
	return list, true
}

func samePlanes(a impl.Planes, b impl.Planes) bool {
	return a.Count == b.Count && slices.Equal(a.Len, b.Len) && slices.Equal(a.Letters, b.Letters)
}

func copyPlanes(s impl.Planes) impl.Planes {
	return impl.Planes{Count: s.Count, Len: slices.Clone(s.Len), Letters: slices.Clone(s.Letters)}
}

func zeroPlanes(s impl.Planes) bool {
	return s.Count == 0 && len(s.Len) == 0 && len(s.Letters) == 0
}

// planesFor returns the planes of strings that have some.
func planesFor(t *testing.T, words ...string) impl.Planes {
	t.Helper()
	s, ok := impl.PlanesOf(words)
	if !ok {
		t.Fatalf("PlanesOf(%q): false", words)
	}
	return s
}

// roomyNums returns a copy of a list with spare capacity behind it, and the whole memory.
func roomyNums(list []uint64) ([]uint64, []uint64) {
	room := append(slices.Clone(list), 0x0123456789abcdef, allBits, 0, 0xfedcba9876543210)
	return room[:len(list)], room
}

func spoilNums(list []uint64) {
	list = list[:cap(list)]
	for i := range list {
		list[i] = ^list[i]
	}
}

// anyNums returns k random planes; often they are nearly those of the other list, or have few or many bits.
func anyNums(r *rand.Rand, k int, other []uint64) []uint64 {
	nums := make([]uint64, k)
	kind := r.IntN(5)
	for i := range nums {
		switch kind {
		case 0:
			nums[i] = r.Uint64() & r.Uint64() & r.Uint64()
		case 1:
			nums[i] = r.Uint64() | r.Uint64() | r.Uint64()
		case 2:
			nums[i] = r.Uint64()
		default:
			nums[i] = r.Uint64()
			if len(other) == k {
				nums[i] = other[i] ^ r.Uint64()&r.Uint64()&r.Uint64()
			}
		}
	}
	return nums
}

// wantNums asks for the planes of numbers, bit by bit, or for an empty list; k is at most 16 or far away.
func wantNums(t *testing.T, list []int, k int) {
	t.Helper()
	room := append(slices.Clone(list), 1, -1, 0)
	whole := slices.Clone(room)
	got := impl.NumsOf(room[:len(list)], k)
	want, ok := modelNums(list, k)
	if !slices.Equal(got, want) {
		t.Errorf("NumsOf(%v, %d): %x, want %x", list, k, got, want)
	}
	if !slices.Equal(room, whole) {
		t.Errorf("NumsOf(%v, %d) modified its argument", list, k)
	}
	if !ok {
		return
	}
	for lane := range 64 {
		number := 0
		if lane < len(list) {
			number = list[lane]
		}
		if n := impl.NumAt(got, lane); n != number {
			t.Errorf("NumAt of lane %d of NumsOf(%v, %d): %d", lane, list, k, n)
		}
	}
}

// fineNums asks for as many planes as there should be, so that a mistake in the model can't hide an empty list.
func fineNums(t *testing.T, list []int, k int) {
	t.Helper()
	if got := impl.NumsOf(list, k); len(got) != k {
		t.Errorf("NumsOf(%v, %d): %d planes", list, k, len(got))
	}
	wantNums(t, list, k)
}

func failNums(t *testing.T, list []int, k int) {
	t.Helper()
	if got := impl.NumsOf(list, k); len(got) != 0 {
		t.Errorf("NumsOf(%v, %d): %x", list, k, got)
	}
	wantNums(t, list, k)
}

func TestSlicesExamples(t *testing.T) {
	n := impl.NumsOf([]int{1, 2, 3}, 2)
	if !slices.Equal(n, []uint64{5, 6}) || impl.NumAt([]uint64{5, 6}, 1) != 2 {
		t.Error("NumsOf, NumAt")
	}
	if !slices.Equal(impl.NumsAdd(n, n), []uint64{0, 5}) {
		t.Error("NumsAdd")
	}
	m := impl.NumsOf([]int{2, 2, 1}, 2)
	if impl.NumsLess(n, m) != 1 || !slices.Equal(impl.NumsMin(n, m), impl.NumsOf([]int{1, 2, 1}, 2)) {
		t.Error("NumsLess, NumsMin")
	}
	s, ok := impl.PlanesOf([]string{"a", "", "bc"})
	if !ok || s.Count != 3 || !slices.Equal(s.Len[:2], []uint64{1, 4}) || !slices.Equal(s.Letters[:2], []uint64{1, 4}) {
		t.Error("PlanesOf")
	}
	if !impl.PlanesOk(s) || !slices.Equal(impl.PlanesWords(s), []string{"a", "", "bc"}) {
		t.Error("PlanesOk, PlanesWords")
	}
	if !slices.Equal(impl.BatchCapped("a", s), []int{0, 1, 2}) {
		t.Error("BatchCapped")
	}
	if impl.MaxLanes != 64 || impl.MaxPlanes != 16 || impl.LenPlanes != 6 || impl.LetterPlanes != 160 {
		t.Error("constants")
	}
}

func TestNumsOfCounts(t *testing.T) {
	for k := range 17 {
		for n := range 65 {
			list := make([]int, n)
			fineNums(t, list, k)
			for i := range list {
				list[i] = 1<<k - 1
			}
			fineNums(t, list, k)
			for i := range list {
				list[i] = i * 7 % (1 << k)
			}
			fineNums(t, list, k)
		}
		for _, n := range []int{65, 66, 127, 128, 129, 320, 1000} {
			list := make([]int, n)
			failNums(t, list, k)
			list[0] = 1
			failNums(t, list, k)
			list[0], list[n-1] = 0, 1
			failNums(t, list, k)
		}
		fineNums(t, nil, k)
	}
}

func TestNumsOfPlanes(t *testing.T) {
	for _, k := range []int{-1, -2, -16, -17, -63, -64, -65, math.MinInt, math.MinInt + 1, 17, 18, 31, 32, 62, 63, 64, 65, 128, 1 << 32, math.MaxInt - 1, math.MaxInt} {
		for _, list := range [][]int{nil, {}, {0}, {1}, {0, 0, 0}, {1, 2, 3}, {-1}, make([]int, 64), make([]int, 65)} {
			failNums(t, list, k)
		}
	}
	for _, list := range [][]int{nil, {}, {0}, {0, 0}, make([]int, 64)} {
		if got := impl.NumsOf(list, 0); len(got) != 0 {
			t.Errorf("no planes of %v: %x", list, got)
		}
	}
	fineNums(t, []int{65535, 0, 32768, 1, 65534}, 16)
}

// TestNumsOfRange lays numbers at the ends of the range, and outside of it, at several places of lists of several lengths.
func TestNumsOfRange(t *testing.T) {
	for k := range 17 {
		limit := 1 << k
		fine := []int{0, limit - 1, limit / 2}
		bad := []int{-1, -2, -limit, -limit - 1, limit, limit + 1, 2*limit - 1, 2 * limit, 3 * limit, 1 << 16, 1<<16 + limit - 1, 1 << 31, 1 << 32, 1<<32 + 1, 1 << 62, -1 << 32, math.MinInt, math.MinInt + 1, math.MaxInt - 1, math.MaxInt}
		for _, count := range []int{1, 2, 3, 33, 64} {
			for _, at := range []int{0, count / 2, count - 1} {
				list := make([]int, count)
				for i := range list {
					list[i] = i % limit
				}
				for _, n := range fine {
					list[at] = n
					fineNums(t, list, k)
				}
				for _, n := range bad {
					list[at] = n
					failNums(t, list, k)
				}
			}
		}
	}
}

func TestNumsOfShortLists(t *testing.T) {
	for k := -1; k <= 4; k++ {
		wantNums(t, nil, k)
		for a := -2; a <= 17; a++ {
			wantNums(t, []int{a}, k)
			for b := -2; b <= 17; b++ {
				wantNums(t, []int{a, b}, k)
			}
		}
	}
}

func TestNumsOfLongLists(t *testing.T) {
	r := rand.New(rand.NewPCG(81, 82))
	for range 2000 {
		k := r.IntN(17)
		list := make([]int, r.IntN(65))
		for i := range list {
			list[i] = r.IntN(1 << k)
		}
		fineNums(t, list, k)
	}
}

func TestNumAt(t *testing.T) {
	r := rand.New(rand.NewPCG(83, 84))
	outside := []int{-1, -2, -63, -64, -65, math.MinInt, math.MinInt + 1, 64, 65, 127, 128, 192, 256, 1 << 32, 1<<32 + 1, math.MaxInt - 1, math.MaxInt}
	for k := range 17 {
		ones, zeros, nums := make([]uint64, k), make([]uint64, k), anyNums(r, k, nil)
		for i := range ones {
			ones[i] = allBits
		}
		for lane := range 64 {
			if got := impl.NumAt(ones, lane); got != 1<<k-1 {
				t.Errorf("%d planes of ones, lane %d: %d", k, lane, got)
			}
			if got := impl.NumAt(zeros, lane); got != 0 {
				t.Errorf("%d planes of zeros, lane %d: %d", k, lane, got)
			}
			if got := impl.NumAt(nums, lane); got != modelNum(nums, lane) {
				t.Errorf("NumAt(%x, %d): %d, want %d", nums, lane, got, modelNum(nums, lane))
			}
		}
		for _, lane := range outside {
			if impl.NumAt(ones, lane) != -1 || impl.NumAt(zeros, lane) != -1 || impl.NumAt(nums, lane) != -1 {
				t.Errorf("%d planes, lane %d", k, lane)
			}
		}
	}
	for _, k := range []int{17, 18, 32, 63, 64, 65, 160, 1000} {
		for _, lane := range append(outside, 0, 1, 62, 63) {
			if got := impl.NumAt(make([]uint64, k), lane); got != -1 {
				t.Errorf("%d planes, lane %d: %d", k, lane, got)
			}
		}
	}
	if impl.NumAt(nil, 0) != 0 || impl.NumAt(nil, 63) != 0 || impl.NumAt(nil, 64) != -1 || impl.NumAt(nil, -1) != -1 {
		t.Error("no planes")
	}
}

// TestNumAtOfOneBit sets each bit of all planes alone.
func TestNumAtOfOneBit(t *testing.T) {
	for i := range 16 {
		for at := range 64 {
			nums := make([]uint64, 16)
			nums[i] = 1 << at
			for lane := range 64 {
				want := 0
				if lane == at {
					want = 1 << i
				}
				if got := impl.NumAt(nums, lane); got != want {
					t.Errorf("bit %d of plane %d, lane %d: %d", at, i, lane, got)
				}
			}
		}
	}
}

// wantLanes holds the sum, the comparison and the minimum of a and b against the numbers of each lane.
func wantLanes(t *testing.T, a []uint64, b []uint64) {
	t.Helper()
	k := len(a)
	roomA, wholeA := roomyNums(a)
	roomB, wholeB := roomyNums(b)
	sum, less, low := impl.NumsAdd(roomA, roomB), impl.NumsLess(roomA, roomB), impl.NumsMin(roomA, roomB)
	if len(sum) != k || len(low) != k {
		t.Fatalf("%x and %x: %d and %d planes", a, b, len(sum), len(low))
	}
	for lane := range 64 {
		m, n := modelNum(a, lane), modelNum(b, lane)
		if got := modelNum(sum, lane); got != (m+n)%(1<<k) {
			t.Errorf("%d planes, lane %d, %d + %d: %d", k, lane, m, n, got)
		}
		if got := bitOf(less, lane); got != (m < n) {
			t.Errorf("%d planes, lane %d, %d less than %d: %v", k, lane, m, n, got)
		}
		if got := modelNum(low, lane); got != min(m, n) {
			t.Errorf("%d planes, lane %d, minimum of %d and %d: %d", k, lane, m, n, got)
		}
		if impl.NumAt(sum, lane) != modelNum(sum, lane) || impl.NumAt(low, lane) != modelNum(low, lane) {
			t.Errorf("%d planes, lane %d: NumAt", k, lane)
		}
	}
	restA, restB := wholeA[k:], wholeB[k:]
	_, fresh := roomyNums(nil)
	if !slices.Equal(roomA, a) || !slices.Equal(roomB, b) || !slices.Equal(restA, fresh) || !slices.Equal(restB, fresh) {
		t.Errorf("%x and %x: an argument is modified", a, b)
	}
}

// TestLanesOfAllPairs goes through all pairs of numbers of up to 5 planes, 64 pairs at a time.
func TestLanesOfAllPairs(t *testing.T) {
	for k := range 6 {
		var left, right []int
		for a := range 1 << k {
			for b := range 1 << k {
				left, right = append(left, a), append(right, b)
			}
		}
		for len(left) > 0 {
			n := min(64, len(left))
			wantLanes(t, impl.NumsOf(left[:n], k), impl.NumsOf(right[:n], k))
			wantLanes(t, impl.NumsOf(left[:min(n, 37)], k), impl.NumsOf(right[:n], k))
			left, right = left[n:], right[n:]
		}
	}
}

// TestLanesOfEnds takes numbers whose sums just reach or exceed the power of two, or carry through all planes.
func TestLanesOfEnds(t *testing.T) {
	for k := 1; k <= 16; k++ {
		limit := 1 << k
		ends := []int{0, 1, 2 % limit, limit/2 - 1, limit / 2, max(limit-2, 0), limit - 1, 0x5555 % limit, 0xaaaa % limit}
		for _, a := range ends {
			for _, b := range ends {
				for _, count := range []int{1, 63, 64} {
					left, right := slices.Repeat([]int{a}, count), slices.Repeat([]int{b}, count)
					wantLanes(t, impl.NumsOf(left, k), impl.NumsOf(right, k))
				}
				// Neighbours have other numbers: nothing may pass from lane to lane.
				left, right := slices.Repeat([]int{a, b}, 32), slices.Repeat([]int{b, b, a, a}, 16)
				wantLanes(t, impl.NumsOf(left, k), impl.NumsOf(right, k))
			}
		}
	}
}

func TestLanesOfAnyNumbers(t *testing.T) {
	r := rand.New(rand.NewPCG(85, 86))
	for range 3000 {
		k := r.IntN(17)
		a := anyNums(r, k, nil)
		b := anyNums(r, k, a)
		wantLanes(t, a, b)
		wantLanes(t, b, a)
		wantLanes(t, a, a)
		if t.Failed() {
			return
		}
	}
}

// TestLanesOfOneSlice passes the same memory twice.
func TestLanesOfOneSlice(t *testing.T) {
	r := rand.New(rand.NewPCG(87, 88))
	for k := range 17 {
		a := anyNums(r, k, nil)
		want := slices.Clone(a)
		sum, low := impl.NumsAdd(a, a), impl.NumsMin(a, a)
		if impl.NumsLess(a, a) != 0 || !slices.Equal(low, want) || !slices.Equal(a, want) {
			t.Errorf("%d planes: %x", k, a)
		}
		if k > 0 && (sum[0] != 0 || !slices.Equal(sum[1:], want[:k-1])) {
			t.Errorf("twice %x: %x", a, sum)
		}
	}
}

func failLanes(t *testing.T, a []uint64, b []uint64) {
	t.Helper()
	if sum := impl.NumsAdd(a, b); len(sum) != 0 {
		t.Errorf("NumsAdd of %d and %d planes: %x", len(a), len(b), sum)
	}
	if less := impl.NumsLess(a, b); less != 0 {
		t.Errorf("NumsLess of %d and %d planes: %x", len(a), len(b), less)
	}
	if low := impl.NumsMin(a, b); len(low) != 0 {
		t.Errorf("NumsMin of %d and %d planes: %x", len(a), len(b), low)
	}
}

func TestLanesOfOtherPlanes(t *testing.T) {
	full := slices.Repeat([]uint64{allBits}, 100)
	none := make([]uint64, 100)
	for m := range 20 {
		for n := range 20 {
			if m == n && m > 0 && m <= 16 {
				wantLanes(t, none[:m], full[:n])
				continue
			}
			failLanes(t, none[:m], full[:n])
			failLanes(t, full[:m], none[:n])
			failLanes(t, full[:m], full[:n])
		}
	}
	for _, n := range []int{17, 18, 32, 64, 100} {
		failLanes(t, none[:n], full[:n])
		failLanes(t, full[:n], none[:n])
	}
	failLanes(t, nil, nil)
	failLanes(t, []uint64{}, nil)
	failLanes(t, nil, full[:1])
	failLanes(t, full[:16], none[:17])
	failLanes(t, none[:17], full[:16])
}

// TestNumsAreNew spoils results, and their spare capacity, and asks for the arguments and for the results again.
func TestNumsAreNew(t *testing.T) {
	a, wholeA := roomyNums([]uint64{0, 7, 9, allBits})
	b, wholeB := roomyNums([]uint64{allBits, 1, 0, 3})
	copyA, copyB := slices.Clone(wholeA), slices.Clone(wholeB)
	list := []int{1, 2, 3}
	calls := map[string]func() []uint64{
		"NumsOf":                 func() []uint64 { return impl.NumsOf(list, 3) },
		"NumsAdd":                func() []uint64 { return impl.NumsAdd(a, b) },
		"NumsAdd of zeros":       func() []uint64 { return impl.NumsAdd(a, make([]uint64, 4)) },
		"NumsAdd to zeros":       func() []uint64 { return impl.NumsAdd(make([]uint64, 4), a) },
		"NumsMin":                func() []uint64 { return impl.NumsMin(a, b) },
		"NumsMin, the first one": func() []uint64 { return impl.NumsMin(a, slices.Repeat([]uint64{allBits}, 4)) },
		"NumsMin, the other one": func() []uint64 { return impl.NumsMin(slices.Repeat([]uint64{allBits}, 4), a) },
		"NumsMin of one slice":   func() []uint64 { return impl.NumsMin(a, a) },
	}
	for what, call := range calls {
		got := call()
		want := slices.Clone(got)
		spoilNums(got)
		if !slices.Equal(call(), want) {
			t.Errorf("%s: another result after the first one is changed", what)
		}
		if !slices.Equal(wholeA, copyA) || !slices.Equal(wholeB, copyB) || !slices.Equal(list, []int{1, 2, 3}) {
			t.Errorf("%s shares memory with an argument", what)
		}
	}
}

// someLists returns lists of words and empty strings.
func someLists() [][]string {
	lists := [][]string{nil, {}, {""}, {"a"}, {"z"}, {"", ""}, {"a", "", "bc"}, {"", "a"}, {"a", ""}, {"ab", "ab"}, {"zz", "", "", "a", ""}}
	lists = append(lists, []string{wordOfLen(32)}, []string{strings.Repeat("z", 32), "", strings.Repeat("a", 32)})
	var lengths, letters []string
	for n := range 33 {
		lengths = append(lengths, wordOfLen(n))
	}
	for i := range 26 {
		letters = append(letters, alphabet[i:i+1])
	}
	lists = append(lists, lengths, letters, make([]string, 63), make([]string, 64))
	for _, w := range []string{"a", "z", wordOfLen(31), wordOfLen(32), strings.Repeat("z", 32)} {
		lists = append(lists, slices.Repeat([]string{w}, 63), slices.Repeat([]string{w}, 64), slices.Repeat([]string{w, ""}, 32), slices.Repeat([]string{"", w}, 32))
	}
	for lane := range 64 {
		list := make([]string, 64)
		list[lane] = wordOfLen(32)
		lists = append(lists, list, list[:lane+1])
	}
	r := rand.New(rand.NewPCG(89, 90))
	for range 100 {
		lists = append(lists, anyWords(r, r.IntN(65)))
	}
	return lists
}

// anyWords returns n random words, some of them empty, short or as long as possible.
func anyWords(r *rand.Rand, n int) []string {
	list := make([]string, n)
	letters := []string{"ab", "abc", "az", alphabet}[r.IntN(4)]
	for i := range list {
		list[i] = anyString(r, letters, []int{0, 2, 8, 32}[r.IntN(4)])
		if r.IntN(8) == 0 {
			list[i] = strings.Repeat(letters, 16)[:32]
		}
	}
	return list
}

// finePlanes asks for the planes of strings, bit by bit, and for the strings back.
func finePlanes(t *testing.T, words []string) impl.Planes {
	t.Helper()
	before := slices.Clone(words)
	s, ok := impl.PlanesOf(words)
	want, _ := modelPlanes(words)
	if !ok || !samePlanes(s, want) || len(s.Len) != 6 || len(s.Letters) != 160 {
		t.Errorf("PlanesOf(%q): %v, %v", words, s, ok)
	}
	if !slices.Equal(words, before) {
		t.Errorf("PlanesOf(%q) modified its argument", before)
	}
	if !impl.PlanesOk(s) || !slices.Equal(impl.PlanesWords(s), words) {
		t.Errorf("planes of %q: %v, %q", words, impl.PlanesOk(s), impl.PlanesWords(s))
	}
	if !samePlanes(s, want) {
		t.Errorf("PlanesOk or PlanesWords modified the planes of %q", words)
	}
	return s
}

func failPlanesOf(t *testing.T, words []string) {
	t.Helper()
	if s, ok := impl.PlanesOf(words); ok || !zeroPlanes(s) {
		t.Errorf("PlanesOf(%q): %v, %v", words, s, ok)
	}
}

func TestPlanesOf(t *testing.T) {
	for _, words := range someLists() {
		s := finePlanes(t, words)
		for lane := range 64 {
			w := ""
			if lane < len(words) {
				w = words[lane]
			}
			if got := impl.NumAt(s.Len, lane); got != len(w) {
				t.Errorf("%q, lane %d: length %d", words, lane, got)
			}
			for p := range 32 {
				want := 0
				if p < len(w) {
					want = int(w[p]) - 96
				}
				if got := impl.NumAt(s.Letters[5*p:5*p+5], lane); got != want {
					t.Errorf("%q, lane %d, position %d: %d, want %d", words, lane, p, got, want)
				}
			}
		}
	}
}

func TestPlanesOfNoString(t *testing.T) {
	for _, words := range [][]string{nil, {}} {
		s := finePlanes(t, words)
		if s.Count != 0 || !slices.Equal(s.Len, make([]uint64, 6)) || !slices.Equal(s.Letters, make([]uint64, 160)) {
			t.Errorf("planes of no string: %v", s)
		}
	}
	for n := range 65 {
		s := finePlanes(t, make([]string, n))
		if s.Count != n || !slices.Equal(s.Len, make([]uint64, 6)) || !slices.Equal(s.Letters, make([]uint64, 160)) {
			t.Errorf("planes of %d empty strings: %v", n, s)
		}
	}
}

func TestPlanesOfCounts(t *testing.T) {
	for _, w := range []string{"", "a", "abc", wordOfLen(32)} {
		for n := range 65 {
			finePlanes(t, slices.Repeat([]string{w}, n))
		}
		for _, n := range []int{65, 66, 127, 128, 129, 1000} {
			failPlanesOf(t, slices.Repeat([]string{w}, n))
		}
	}
	// A 65th string behind the length of the list is none of them.
	room := slices.Repeat([]string{"ab"}, 65)
	room[64] = "?"
	finePlanes(t, room[:64])
	failPlanesOf(t, room)
}

// notWords returns strings that are neither words nor empty.
func notWords() []string {
	list := []string{wordOfLen(33), wordOfLen(34), wordOfLen(63), wordOfLen(64), wordOfLen(65), wordOfLen(1000), strings.Repeat("\x00", 33)}
	for v := range 256 {
		if b := byte(v); !isLower(b) {
			list = append(list, placesOf(wordOfLen(3), b)...)
			list = append(list, string([]byte{b}), strings.Repeat(string([]byte{b}), 32), wordOfLen(31)+string([]byte{b}))
		}
	}
	return append(list, "A", "aB", " ", "a ", " a", "a-b", "é", "aé", "`", "{", "\x00", "\xff", "ab\x00")
}

func TestPlanesOfOtherStrings(t *testing.T) {
	for _, w := range notWords() {
		failPlanesOf(t, []string{w})
		for _, count := range []int{2, 3, 9, 64} {
			for _, at := range []int{0, count / 2, count - 1} {
				for _, other := range []string{"", "a", wordOfLen(32)} {
					list := slices.Repeat([]string{other}, count)
					list[at] = w
					failPlanesOf(t, list)
				}
			}
		}
		failPlanesOf(t, slices.Repeat([]string{w}, 64))
		failPlanesOf(t, slices.Repeat([]string{w}, 65))
	}
}

func TestPlanesAreNew(t *testing.T) {
	words := []string{"a", "", "bc"}
	s := planesFor(t, words...)
	want := copyPlanes(s)
	s.Len = append(s.Len, allBits)[:6]
	s.Letters = append(s.Letters, allBits)[:160]
	spoilNums(s.Len)
	if !slices.Equal(s.Letters, want.Letters) {
		t.Error("Len and Letters share memory")
	}
	spoilNums(s.Letters)
	if !samePlanes(planesFor(t, words...), want) || !slices.Equal(words, []string{"a", "", "bc"}) {
		t.Error("two results of PlanesOf share memory")
	}
	first, second := planesFor(t, words...), planesFor(t, words...)
	spoilNums(first.Len)
	spoilNums(first.Letters)
	if !samePlanes(second, want) {
		t.Error("two results of PlanesOf share memory")
	}
	list := impl.PlanesWords(second)
	list[0] = "x"
	dists := impl.BatchCapped("a", second)
	spoil(dists)
	if !slices.Equal(impl.PlanesWords(second), words) || !slices.Equal(impl.BatchCapped("a", second), []int{0, 1, 2}) {
		t.Error("two results share memory")
	}
}

// wantPlanes holds PlanesOk, PlanesWords and BatchCapped of any planes against the meaning of the lanes.
func wantPlanes(t *testing.T, what string, s impl.Planes) {
	t.Helper()
	before := copyPlanes(s)
	words, ok := modelWords(s)
	if got := impl.PlanesOk(s); got != ok {
		t.Errorf("%s: PlanesOk %v", what, got)
	}
	if got := impl.PlanesWords(s); !slices.Equal(got, words) {
		t.Errorf("%s: PlanesWords %q, want %q", what, got, words)
	}
	if got := impl.BatchCapped("ab", s); len(got) != len(words) {
		t.Errorf("%s: BatchCapped %v", what, got)
	}
	if !samePlanes(s, before) {
		t.Errorf("%s: modified", what)
	}
}

// failPlanes asks for planes that are not those of any strings.
func failPlanes(t *testing.T, what string, s impl.Planes) {
	t.Helper()
	if impl.PlanesOk(s) || len(impl.PlanesWords(s)) != 0 {
		t.Errorf("%s: %v, %q", what, impl.PlanesOk(s), impl.PlanesWords(s))
	}
	for _, p := range []string{"", "a", wordOfLen(32), wordOfLen(33)} {
		if got := impl.BatchCapped(p, s); len(got) != 0 {
			t.Errorf("%s: BatchCapped(%q): %v", what, p, got)
		}
	}
	wantPlanes(t, what, s)
}

func TestPlanesWithAnotherCount(t *testing.T) {
	for _, words := range [][]string{nil, {""}, {"a"}, {"a", "", "bc"}, {"", "", "a"}, slices.Repeat([]string{"ab"}, 64), make([]string, 64), slices.Repeat([]string{"ab", ""}, 32)} {
		s := planesFor(t, words...)
		last := 0
		for lane, w := range words {
			if w != "" {
				last = lane + 1
			}
		}
		for _, count := range []int{-1, -2, -64, math.MinInt, math.MinInt + 1, 65, 66, 128, 256, 1 << 32, 1<<32 + 1, math.MaxInt - 1, math.MaxInt} {
			s.Count = count
			failPlanes(t, fmt.Sprintf("planes of %d strings with Count %d", len(words), count), s)
		}
		for count := range 65 {
			s.Count = count
			what := fmt.Sprintf("planes of %q with Count %d", words, count)
			if count < last {
				failPlanes(t, what, s)
				continue
			}
			// With more or fewer empty strings at the end they are planes of other strings.
			wantPlanes(t, what, s)
			want := append(slices.Clone(words[:last]), make([]string, count-last)...)
			if got := impl.PlanesWords(s); !impl.PlanesOk(s) || !slices.Equal(got, want) {
				t.Errorf("%s: %q, want %q", what, got, want)
			}
		}
	}
}

func TestPlanesWithOtherLengths(t *testing.T) {
	failPlanes(t, "the zero value", impl.Planes{})
	for _, words := range [][]string{nil, {""}, {"a"}, {"a", "", "bc"}, make([]string, 64), slices.Repeat([]string{wordOfLen(32)}, 64)} {
		s := planesFor(t, words...)
		longLen, longLetters := append(slices.Clone(s.Len), 0, 0, 0), append(slices.Clone(s.Letters), make([]uint64, 200)...)
		for n := range len(longLen) + 1 {
			for _, m := range []int{0, 1, 5, 154, 155, 156, 159, 160, 161, 165, 320, 360} {
				other := impl.Planes{Count: len(words), Len: longLen[:n], Letters: longLetters[:m]}
				what := fmt.Sprintf("planes of %d strings, %d and %d of them", len(words), n, m)
				if n == 6 && m == 160 {
					wantPlanes(t, what, other)
					continue
				}
				failPlanes(t, what, other)
			}
		}
		failPlanes(t, "without Len", impl.Planes{Count: len(words), Letters: s.Letters})
		failPlanes(t, "without Letters", impl.Planes{Count: len(words), Len: s.Len})
		failPlanes(t, "Len and Letters swapped", impl.Planes{Count: len(words), Len: s.Letters, Letters: s.Len})
	}
}

// TestPlanesWithOneBitChanged changes every bit of the planes of some lists alone.
func TestPlanesWithOneBitChanged(t *testing.T) {
	lists := [][]string{nil, {"a", "", "bc"}, {"", "z", wordOfLen(32)}, {strings.Repeat("z", 32), wordOfLen(31), "o"}}
	for at, words := range append(lists, slices.Repeat([]string{"ab", "", wordOfLen(32), "p"}, 16)) {
		s := planesFor(t, words...)
		for lane := range 64 {
			for i := range 6 {
				other := copyPlanes(s)
				other.Len[i] ^= 1 << lane
				what := fmt.Sprintf("list %d, lane %d, bit %d of Len changed", at, lane, i)
				// Another length alone, with the letters as they were, is never right.
				if impl.PlanesOk(other) {
					t.Errorf("%s: PlanesOk", what)
				}
				wantPlanes(t, what, other)
			}
			for i := range 160 {
				other := copyPlanes(s)
				other.Letters[i] ^= 1 << lane
				what := fmt.Sprintf("list %d, lane %d, bit %d of Letters changed", at, lane, i)
				if (lane >= len(words) || i/5 >= len(words[lane])) && impl.PlanesOk(other) {
					t.Errorf("%s: PlanesOk", what)
				}
				wantPlanes(t, what, other)
			}
		}
	}
}

// TestPlanesWithAnyLetter puts each number at several places of words: 0 and those above 26 are no letters.
func TestPlanesWithAnyLetter(t *testing.T) {
	for _, n := range []int{1, 2, 3, 31, 32} {
		for _, lane := range []int{0, 1, 40, 63} {
			words := slices.Repeat([]string{wordOfLen(n)}, 64)
			s := planesFor(t, words...)
			for _, p := range []int{0, n / 2, n - 1} {
				for number := range 32 {
					other := copyPlanes(s)
					for i := range 5 {
						other.Letters[5*p+i] &^= 1 << lane
						other.Letters[5*p+i] |= uint64(number>>i&1) << lane
					}
					what := fmt.Sprintf("the number %d at position %d of %d, lane %d", number, p, n, lane)
					if number < 1 || number > 26 {
						failPlanes(t, what, other)
						continue
					}
					w := words[lane][:p] + alphabet[number-1:number] + words[lane][p+1:]
					if got := impl.PlanesWords(other); !impl.PlanesOk(other) || len(got) != 64 || got[lane] != w {
						t.Errorf("%s: %q", what, got)
					}
					wantPlanes(t, what, other)
				}
			}
		}
	}
}

// TestPlanesWithAnyLength gives lanes each length that their planes can hold, with letters at all positions or at as many.
func TestPlanesWithAnyLength(t *testing.T) {
	for _, lane := range []int{0, 1, 31, 62, 63} {
		for length := range 64 {
			full := planesFor(t, slices.Repeat([]string{strings.Repeat("a", 32)}, 64)...)
			exact := planesFor(t, make([]string, 64)...)
			for i := range 6 {
				full.Len[i] &^= 1 << lane
				full.Len[i] |= uint64(length>>i&1) << lane
				exact.Len[i] |= uint64(length>>i&1) << lane
			}
			for p := range min(length, 32) {
				exact.Letters[5*p] |= 1 << lane
			}
			what := fmt.Sprintf("the length %d, lane %d", length, lane)
			if length > 32 {
				failPlanes(t, what, exact)
			} else if got := impl.PlanesWords(exact); len(got) != 64 || got[lane] != strings.Repeat("a", length) {
				t.Errorf("%s: %q", what, got)
			}
			if length != 32 {
				failPlanes(t, what+" of 32 letters", full)
			}
			wantPlanes(t, what, exact)
			wantPlanes(t, what, full)
		}
	}
}

// TestPlanesBehindTheLastWord lays a whole word into each lane behind the last string, and into all of them.
func TestPlanesBehindTheLastWord(t *testing.T) {
	for _, count := range []int{0, 1, 2, 31, 62, 63} {
		for _, w := range []string{"", "a", wordOfLen(32)} {
			words := slices.Repeat([]string{w}, count)
			for lane := count; lane < 64; lane++ {
				more := append(slices.Clone(words), make([]string, 64-count)...)
				more[lane] = "ab"
				s := planesFor(t, more...)
				s.Count = count
				failPlanes(t, fmt.Sprintf("%d times %q and a word in lane %d", count, w, lane), s)
				s.Count = lane
				failPlanes(t, fmt.Sprintf("%d times %q and a word in lane %d, just behind", count, w, lane), s)
			}
			s := planesFor(t, append(words, slices.Repeat([]string{"b"}, 64-count)...)...)
			s.Count = count
			failPlanes(t, fmt.Sprintf("%d times %q and words in all further lanes", count, w), s)
		}
	}
}

func TestPlanesOfAnyBits(t *testing.T) {
	r := rand.New(rand.NewPCG(91, 92))
	for range 500 {
		s := impl.Planes{Count: r.IntN(65), Len: anyNums(r, 6, nil), Letters: anyNums(r, 160, nil)}
		wantPlanes(t, "any bits", s)
		s = planesFor(t, anyWords(r, r.IntN(65))...)
		for range 1 + r.IntN(3) {
			if r.IntN(4) == 0 {
				s.Len[r.IntN(6)] ^= 1 << r.IntN(64)
			} else {
				s.Letters[r.IntN(160)] ^= 1 << r.IntN(64)
			}
			wantPlanes(t, "some bits changed", s)
		}
	}
}

// wantBatch asks for Capped of p and each word.
func wantBatch(t *testing.T, p string, words []string) {
	t.Helper()
	s := planesFor(t, words...)
	before := copyPlanes(s)
	want := make([]int, len(words))
	for lane, w := range words {
		want[lane] = impl.Capped(p, w)
	}
	if got := impl.BatchCapped(p, s); !slices.Equal(got, want) {
		t.Errorf("BatchCapped(%q, %q): %v, want %v", p, words, got, want)
	}
	if !samePlanes(s, before) {
		t.Errorf("BatchCapped(%q, %q) modified the planes", p, words)
	}
}

func TestBatchCappedOfLists(t *testing.T) {
	for _, words := range someLists() {
		for _, p := range []string{"", "a", "z", "b", "bc", "ab", "?", wordOfLen(31), wordOfLen(32), strings.Repeat("z", 32)} {
			wantBatch(t, p, words)
		}
	}
}

// TestBatchCappedOfShortWords holds all short patterns against all short words, 64 at a time.
func TestBatchCappedOfShortWords(t *testing.T) {
	words := stringsOf("ab", 6)
	for _, p := range stringsOf("abc", 4) {
		for rest := words; len(rest) > 0; rest = rest[min(64, len(rest)):] {
			wantBatch(t, p, rest[:min(64, len(rest))])
		}
	}
}

// TestBatchCappedOfLengths holds patterns of all lengths against words of all lengths, near and far.
func TestBatchCappedOfLengths(t *testing.T) {
	var near, far []string
	for n := range 33 {
		near, far = append(near, wordOfLen(n)), append(far, strings.Repeat("z", n))
	}
	for n := range 33 {
		for _, p := range []string{wordOfLen(n), strings.Repeat("a", n), strings.Repeat("z", n), strings.Repeat("?", n)} {
			wantBatch(t, p, near)
			wantBatch(t, p, far)
			wantBatch(t, p, append(near[:31:31], far...))
		}
	}
}

// TestBatchCappedOfLetters holds every byte against every letter, alone and inside of words.
func TestBatchCappedOfLetters(t *testing.T) {
	var single, inside []string
	for i := range 26 {
		single, inside = append(single, alphabet[i:i+1]), append(inside, "ab"+alphabet[i:i+1]+"cd")
	}
	single = append(single, "")
	for v := range 256 {
		b := string([]byte{byte(v)})
		wantBatch(t, b, single)
		wantBatch(t, "ab"+b+"cd", inside)
		want := make([]int, 27)
		for i := range want {
			want[i] = 1
			if i < 26 && single[i] == b {
				want[i] = 0
			}
		}
		if got := impl.BatchCapped(b, planesFor(t, single...)); !slices.Equal(got, want) {
			t.Errorf("the byte %d: %v, want %v", v, got, want)
		}
	}
}

func TestBatchCappedOfOtherBytes(t *testing.T) {
	words := []string{"", "a", "aa", "ab", "aba", "z", "abcdefg", "abcdefgh", wordOfLen(32)}
	for _, p := range []string{
		"\x00", "\xff", "A", "a\x00", "\x00a", "aB", "Aba", "a\xffa", "ab\x00", "\x00\x00", "`", "{", "a`", "a{b", " a", "é",
		strings.Repeat("\x00", 7), strings.Repeat("\x00", 32), strings.Repeat("\xff", 32), strings.Repeat("A", 32), strings.ToUpper(wordOfLen(32)),
		wordOfLen(31) + "\x00", "\x00" + wordOfLen(31), strings.Repeat("a\x00", 16), strings.Repeat("é", 16), "\x01", "\x1a", "\x61\xe1\x21",
	} {
		wantBatch(t, p, words)
	}
}

func TestBatchCappedOfLongPatterns(t *testing.T) {
	words := []string{"", "a", wordOfLen(31), wordOfLen(32)}
	s := planesFor(t, words...)
	wantBatch(t, wordOfLen(32), words)
	wantBatch(t, strings.Repeat("é", 16), words)
	if got := impl.BatchCapped(wordOfLen(32), s); !slices.Equal(got, []int{7, 7, 1, 0}) {
		t.Errorf("a pattern of 32 letters: %v", got)
	}
	for _, n := range []int{33, 34, 63, 64, 65, 256, 257, 288, 1000, 65536} {
		for _, p := range []string{wordOfLen(n), strings.Repeat("\x00", n), strings.Repeat("\xff", n)} {
			for _, list := range [][]string{nil, {""}, words, make([]string, 64)} {
				if got := impl.BatchCapped(p, planesFor(t, list...)); len(got) != 0 {
					t.Errorf("a pattern of %d bytes: %v", n, got)
				}
			}
		}
	}
	if got := impl.BatchCapped(strings.Repeat("é", 17), s); len(got) != 0 {
		t.Errorf("a pattern of 17 letters of two bytes: %v", got)
	}
}

func TestBatchCappedOfEmptyStrings(t *testing.T) {
	for n := range 65 {
		words := make([]string, n)
		for _, p := range []string{"", "a", "abcdef", "abcdefg", "abcdefgh", wordOfLen(32), "\x00", "\x00\x00\x00"} {
			want := slices.Repeat([]int{min(len(p), 7)}, n)
			if got := impl.BatchCapped(p, planesFor(t, words...)); !slices.Equal(got, want) {
				t.Errorf("%q and %d empty strings: %v", p, n, got)
			}
		}
	}
	var words []string
	var want []int
	for n := range 33 {
		words, want = append(words, wordOfLen(n)), append(want, min(n, 7))
	}
	if got := impl.BatchCapped("", planesFor(t, words...)); !slices.Equal(got, want) {
		t.Errorf("the empty pattern: %v", got)
	}
}

// TestBatchCappedOfAnyWords takes words near the pattern, of all distances up to the greatest one and beyond.
func TestBatchCappedOfAnyWords(t *testing.T) {
	r := rand.New(rand.NewPCG(93, 94))
	seen := make([]int, 8)
	for range 300 {
		letters := []string{"ab", "abc", "abcdefgh", alphabet}[r.IntN(4)]
		p := anyString(r, letters, 32)
		words := anyWords(r, r.IntN(65))
		for lane := range words {
			if r.IntN(4) > 0 {
				words[lane] = nearString(r, letters, p, 32)
			}
		}
		if r.IntN(3) == 0 {
			p = nearString(r, letters+"\x00\xffA", p, 32)
		}
		wantBatch(t, p, words)
		for _, dist := range impl.BatchCapped(p, planesFor(t, words...)) {
			seen[dist]++
		}
	}
	for dist, n := range seen {
		if n < 100 {
			t.Errorf("the distance %d only %d times", dist, n)
		}
	}
}

// TestBatchCappedOfLanes asks that the place of a word among the others doesn't matter.
func TestBatchCappedOfLanes(t *testing.T) {
	r := rand.New(rand.NewPCG(95, 96))
	for range 30 {
		words := anyWords(r, 64)
		p := words[r.IntN(64)]
		dists := impl.BatchCapped(p, planesFor(t, words...))
		order := r.Perm(64)
		moved := make([]string, 64)
		for lane, from := range order {
			moved[lane] = words[from]
		}
		for lane, got := range impl.BatchCapped(p, planesFor(t, moved...)) {
			if got != dists[order[lane]] {
				t.Errorf("%q and %q: %d in lane %d, %d in lane %d", p, moved[lane], got, lane, dists[order[lane]], order[lane])
			}
		}
	}
}

// TestPlanesWithRoom passes planes with memory behind their lengths, which is neither read nor modified.
func TestPlanesWithRoom(t *testing.T) {
	words := []string{"a", "", "bc", wordOfLen(32)}
	s := planesFor(t, words...)
	lens, wholeLens := roomyNums(s.Len)
	letters, wholeLetters := roomyNums(s.Letters)
	copyLens, copyLetters := slices.Clone(wholeLens), slices.Clone(wholeLetters)
	roomy := impl.Planes{Count: 4, Len: lens, Letters: letters}
	if !impl.PlanesOk(roomy) || !slices.Equal(impl.PlanesWords(roomy), words) || !slices.Equal(impl.BatchCapped("a", roomy), []int{0, 1, 2, 7}) {
		t.Error("planes with memory behind their lengths")
	}
	if !slices.Equal(wholeLens, copyLens) || !slices.Equal(wholeLetters, copyLetters) {
		t.Error("an argument is modified")
	}
}

// TestSlicesKeepNothing asks for the same results in another order, after other calls.
func TestSlicesKeepNothing(t *testing.T) {
	r := rand.New(rand.NewPCG(97, 98))
	type answer struct {
		p     string
		words []string
		dists []int
		sum   []uint64
	}
	var list []answer
	for range 100 {
		p, words := anyString(r, "abc", 32), anyWords(r, r.IntN(65))
		s := planesFor(t, words...)
		list = append(list, answer{p, words, impl.BatchCapped(p, s), impl.NumsAdd(s.Len, s.Len)})
	}
	r.Shuffle(len(list), func(i int, j int) { list[i], list[j] = list[j], list[i] })
	for _, x := range list {
		impl.BatchCapped(wordOfLen(33), impl.Planes{})
		impl.PlanesOf([]string{"?"})
		s := planesFor(t, x.words...)
		if !slices.Equal(impl.BatchCapped(x.p, s), x.dists) || !slices.Equal(impl.NumsAdd(s.Len, s.Len), x.sum) {
			t.Fatalf("%q and %q: other results than before", x.p, x.words)
		}
	}
}
