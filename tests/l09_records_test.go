package tests

import (
	"bytes"
	"math"
	"math/rand/v2"
	"slices"
	"strings"
	"testing"

	"loop.example/g00663/impl"
)

// live returns a record with all its fields, whether valid or not.
func live(dist int, weight int, word string) impl.Rec {
	return impl.Rec{Live: true, Dist: dist, Weight: weight, Word: word}
}

// allLetters is the document's rule for a word, letter by letter.
func allLetters(w string) bool {
	for i := range len(w) {
		if !isLower(w[i]) {
			return false
		}
	}
	return len(w) > 0 && len(w) < 33
}

// modelRecOk is the document's rule for a valid record, field by field.
func modelRecOk(r impl.Rec) bool {
	if !r.Live && r.Dist == 0 && r.Weight == 0 && r.Word == "" {
		return true
	}
	return r.Live && 0 <= r.Dist && r.Dist < 8 && 0 <= r.Weight && r.Weight < 65536 && allLetters(r.Word)
}

// modelRecOf writes the bytes of a record one after another, or none if it is not valid.
func modelRecOf(r impl.Rec) []byte {
	if !modelRecOk(r) {
		return nil
	}
	if !r.Live {
		return make([]byte, 37)
	}
	data := []byte{1, byte(r.Dist), byte(r.Weight / 256), byte(r.Weight % 256), byte(len(r.Word))}
	data = append(data, r.Word...)
	return append(data, make([]byte, 37-len(data))...)
}

// modelRecRead finds the record of which data is the RecOf by the meaning of each byte, and whether there is one.
func modelRecRead(data []byte) (impl.Rec, bool) {
	if bytes.Equal(data, make([]byte, 37)) {
		return impl.Rec{}, true
	}
	if len(data) != 37 || data[0] != 1 || data[1] > 7 || data[4] < 1 || data[4] > 32 {
		return impl.Rec{}, false
	}
	end := 5 + int(data[4])
	r := live(int(data[1]), 256*int(data[2])+int(data[3]), string(data[5:end]))
	for _, b := range data[end:] {
		if b != 0 {
			return impl.Rec{}, false
		}
	}
	if !allLetters(r.Word) {
		return impl.Rec{}, false
	}
	return r, true
}

// modelAhead is the document's order, one condition after another.
func modelAhead(a impl.Rec, b impl.Rec) bool {
	if !modelRecOk(a) || !modelRecOk(b) || !a.Live {
		return false
	}
	if !b.Live || a.Dist < b.Dist {
		return true
	}
	if a.Dist == b.Dist && a.Weight > b.Weight {
		return true
	}
	return a.Dist == b.Dist && a.Weight == b.Weight && bytewise(a.Word, b.Word) < 0
}

// recWords are words that differ in their lengths, at their beginnings and at their ends.
func recWords() []string {
	return []string{"a", "aa", "ab", "b", "z", "za", wordOfLen(31), wordOfLen(32), wordOfLen(31) + "z", strings.Repeat("z", 32)}
}

// goodRecs returns an empty record and all Live ones with a few different fields, so that any two differ
// in one or several of them, and in each direction.
func goodRecs() []impl.Rec {
	list := []impl.Rec{{}}
	for _, dist := range []int{0, 1, 2, 7} {
		for _, weight := range []int{0, 1, 2, 255, 256, 258, 65534, 65535} {
			for _, w := range []string{"a", "ab", "b", wordOfLen(32)} {
				list = append(list, live(dist, weight, w))
			}
		}
	}
	return list
}

// fewRecs returns valid records of every kind, for tests that try much with each of them.
func fewRecs() []impl.Rec {
	list := []impl.Rec{{}, live(0, 0, "a"), live(7, 65535, wordOfLen(32)), live(2, 258, "ab"), live(0, 1, "z"), live(1, 0, wordOfLen(31)), live(3, 256, "q"), live(4, 255, "abc")}
	for i, w := range recWords() {
		list = append(list, live(i%8, 6553*i, w))
	}
	return list
}

// badRecs returns records that are not valid, most of them for one reason.
func badRecs() []impl.Rec {
	list := []impl.Rec{{Live: true}, {Live: true, Dist: 1}, {Live: true, Weight: 1}, live(0, 0, ""), live(7, 65535, ""), live(8, 65536, "")}
	dists := []int{-1, -2, -7, -8, 8, 9, 255, 256, 256 + 2, 65536, 1 << 32, -1 << 32, 1<<32 + 1, -256, math.MinInt, math.MinInt + 1, math.MaxInt - 1, math.MaxInt}
	weights := []int{-1, -2, -65535, -65536, 65536, 65537, 65536 + 258, 131071, 131072, 1 << 24, 1 << 32, -1 << 32, 1<<32 + 1, math.MinInt, math.MinInt + 1, math.MaxInt - 1, math.MaxInt}
	for _, w := range []string{"a", "ab", wordOfLen(32)} {
		for _, dist := range dists {
			list = append(list, live(dist, 0, w), live(dist, 258, w), live(dist, 65535, w), live(dist, dist, w))
		}
		for _, weight := range weights {
			list = append(list, live(0, weight, w), live(2, weight, w), live(7, weight, w))
		}
	}
	return append(list, halfEmpty()...)
}

// halfEmpty returns records that are not Live, and not empty either.
func halfEmpty() []impl.Rec {
	var list []impl.Rec
	for _, n := range []int{1, -1, 2, 7, 8, 255, 256, 65535, 65536, 1 << 32, math.MinInt, math.MaxInt} {
		list = append(list, impl.Rec{Dist: n}, impl.Rec{Weight: n})
	}
	for _, w := range append(recWords(), " ", "?", "A", "\x00", "\xff", wordOfLen(33), strings.Repeat("\x00", 32)) {
		list = append(list, impl.Rec{Word: w})
	}
	for _, r := range fewRecs()[1:] {
		r.Live = false
		list = append(list, r)
	}
	return list
}

// fineRec asks all functions about one valid record.
func fineRec(t *testing.T, r impl.Rec) {
	t.Helper()
	data, want := impl.RecOf(r), modelRecOf(r)
	if !impl.RecOk(r) || !impl.RecsOk([]impl.Rec{r}) {
		t.Errorf("%v: not RecOk or RecsOk", r)
	}
	if len(data) != 37 || !bytes.Equal(data, want) {
		t.Errorf("RecOf(%v): %v, want %v", r, data, want)
	}
	if back, ok := impl.RecRead(want); !ok || back != r {
		t.Errorf("RecRead of RecOf(%v): %v, %v", r, back, ok)
	}
	if impl.RecAhead(r, r) {
		t.Errorf("%v precedes itself", r)
	}
}

// failRec asks all functions about one record that is not valid.
func failRec(t *testing.T, r impl.Rec) {
	t.Helper()
	if impl.RecOk(r) || impl.RecsOk([]impl.Rec{r}) {
		t.Errorf("%v: RecOk or RecsOk", r)
	}
	if data := impl.RecOf(r); len(data) != 0 {
		t.Errorf("RecOf(%v): %v", r, data)
	}
	for _, other := range []impl.Rec{{}, live(0, 65535, "a"), live(7, 0, wordOfLen(32)), r} {
		if impl.RecAhead(r, other) || impl.RecAhead(other, r) {
			t.Errorf("%v and %v: one precedes the other", r, other)
		}
		wantPair(t, r, other, r, other)
		wantPair(t, other, r, other, r)
	}
}

func wantPair(t *testing.T, a impl.Rec, b impl.Rec, first impl.Rec, second impl.Rec) {
	t.Helper()
	if x, y := impl.RecPair(a, b); x != first || y != second {
		t.Errorf("RecPair(%v, %v): %v, %v", a, b, x, y)
	}
}

// wantRec asks RecRead for what the model finds in the data, which stays as it is.
func wantRec(t *testing.T, data []byte) bool {
	t.Helper()
	before := bytes.Clone(data)
	got, ok := impl.RecRead(data)
	if !bytes.Equal(data, before) {
		t.Fatalf("RecRead(%v) modifies its argument", before)
	}
	want, valid := modelRecRead(data)
	if ok != valid || got != want {
		t.Fatalf("RecRead(%v): %v, %v, want %v, %v", data, got, ok, want, valid)
	}
	if ok && !bytes.Equal(impl.RecOf(got), data) {
		t.Fatalf("RecRead(%v): %v, whose RecOf it is not", data, got)
	}
	return ok
}

func failRecRead(t *testing.T, what string, data []byte) {
	t.Helper()
	if wantRec(t, data) {
		t.Errorf("%s: RecRead(%v) is true", what, data)
	}
}

func TestRecExamples(t *testing.T) {
	if impl.RecBytes != 37 || impl.MaxWeight != 65535 {
		t.Error("constants")
	}
	r := live(2, 258, "ab")
	if data := impl.RecOf(r); !bytes.HasPrefix(data, []byte{1, 2, 1, 2, 2, 'a', 'b'}) || len(data) != 37 {
		t.Errorf("RecOf: %v", data)
	}
	for _, w := range []string{"a", "ab", "zz"} {
		heavy := live(2, 300, w)
		if !impl.RecAhead(heavy, r) || impl.RecAhead(r, heavy) {
			t.Errorf("weights 300 and 258, word %q", w)
		}
		for _, one := range []impl.Rec{heavy, r} {
			if !impl.RecAhead(one, impl.Rec{}) || impl.RecAhead(impl.Rec{}, one) {
				t.Errorf("%v and an empty record", one)
			}
			wantPair(t, impl.Rec{}, one, one, impl.Rec{})
			wantPair(t, one, impl.Rec{}, one, impl.Rec{})
		}
		wantPair(t, r, heavy, heavy, r)
		wantPair(t, heavy, r, heavy, r)
	}
}

func TestRecEmpty(t *testing.T) {
	empty := impl.Rec{}
	fineRec(t, empty)
	if data := impl.RecOf(empty); !bytes.Equal(data, make([]byte, 37)) {
		t.Errorf("RecOf of an empty record: %v", data)
	}
	if r, ok := impl.RecRead(make([]byte, 37)); !ok || r != empty {
		t.Errorf("RecRead of zero bytes: %v, %v", r, ok)
	}
	if impl.RecAhead(empty, empty) {
		t.Error("an empty record precedes an empty record")
	}
	wantPair(t, empty, empty, empty, empty)
	for _, r := range halfEmpty() {
		failRec(t, r)
	}
	failRec(t, impl.Rec{Live: true})
}

func TestRecOkOfNumbers(t *testing.T) {
	for _, w := range recWords() {
		for dist := -20; dist <= 300; dist++ {
			if dist >= 0 && dist <= 7 {
				fineRec(t, live(dist, 9*dist, w))
			} else {
				failRec(t, live(dist, 9, w))
			}
		}
		for _, weight := range []int{0, 1, 2, 127, 128, 254, 255, 256, 257, 258, 32767, 32768, 65279, 65280, 65534, 65535} {
			for dist := range 8 {
				fineRec(t, live(dist, weight, w))
			}
		}
	}
	for _, r := range goodRecs() {
		fineRec(t, r)
	}
	for _, r := range badRecs() {
		failRec(t, r)
	}
}

// TestRecOkOfWeights passes all weights, and many around them.
func TestRecOkOfWeights(t *testing.T) {
	for weight := -3; weight <= 65535+3; weight++ {
		r := live(weight&7, weight, "ab")
		if want := weight >= 0 && weight <= 65535; impl.RecOk(r) != want {
			t.Fatalf("RecOk(%v): %v", r, !want)
		}
		data := impl.RecOf(r)
		if !bytes.Equal(data, modelRecOf(r)) {
			t.Fatalf("RecOf(%v): %v", r, data)
		}
		if len(data) != 0 {
			if !wantRec(t, data) {
				t.Fatalf("RecRead of RecOf(%v) is false", r)
			}
		}
	}
}

func TestRecOkOfWords(t *testing.T) {
	for n := 0; n <= 100; n++ {
		for _, letter := range []string{"a", "m", "z"} {
			r := live(2, 258, strings.Repeat(letter, n))
			if n >= 1 && n <= 32 {
				fineRec(t, r)
			} else {
				failRec(t, r)
			}
		}
	}
	for _, w := range append(notWords(), "", wordOfLen(256+5), wordOfLen(100000)) {
		failRec(t, live(2, 258, w))
		failRec(t, live(0, 0, w))
	}
	for v := range 256 {
		for _, base := range []string{"a", "ab", wordOfLen(32)} {
			for _, w := range placesOf(base, byte(v)) {
				if isLower(byte(v)) {
					fineRec(t, live(1, 1, w))
				} else {
					failRec(t, live(1, 1, w))
				}
			}
		}
	}
}

// TestRecOfWritten has the bytes of some records as they stand in the document's order.
func TestRecOfWritten(t *testing.T) {
	list := []struct {
		r    impl.Rec
		head []byte
	}{
		{live(0, 0, "a"), []byte{1, 0, 0, 0, 1, 'a'}},
		{live(7, 0, "z"), []byte{1, 7, 0, 0, 1, 'z'}},
		{live(0, 1, "a"), []byte{1, 0, 0, 1, 1, 'a'}},
		{live(0, 255, "a"), []byte{1, 0, 0, 255, 1, 'a'}},
		{live(0, 256, "a"), []byte{1, 0, 1, 0, 1, 'a'}},
		{live(1, 65280, "ba"), []byte{1, 1, 255, 0, 2, 'b', 'a'}},
		{live(3, 65535, "abc"), []byte{1, 3, 255, 255, 3, 'a', 'b', 'c'}},
		{live(5, 4660, wordOfLen(32)), append([]byte{1, 5, 0x12, 0x34, 32}, wordOfLen(32)...)},
	}
	for _, x := range list {
		want := append(slices.Clone(x.head), make([]byte, 37-len(x.head))...)
		if data := impl.RecOf(x.r); !bytes.Equal(data, want) {
			t.Errorf("RecOf(%v): %v, want %v", x.r, data, want)
		}
		fineRec(t, x.r)
	}
}

func TestRecOfIsNew(t *testing.T) {
	for _, r := range fewRecs() {
		want := modelRecOf(r)
		a, b := impl.RecOf(r), impl.RecOf(r)
		wantOwnBytes(t, "RecOf", a, b, impl.Pad(r.Word), impl.RecOf(impl.Rec{}))
		if c := impl.RecOf(r); !bytes.Equal(c, want) {
			t.Errorf("RecOf(%v) again: %v", r, c)
		}
		// What is appended to one result is not to be seen behind another.
		c := impl.RecOf(r)
		_ = append(c, 77)
		if d := append(impl.RecOf(r), 0); !bytes.Equal(d[:37], want) || !bytes.Equal(c, want) {
			t.Errorf("RecOf(%v) shares memory", r)
		}
	}
}

// TestRecOfApart asks that no two records have the same bytes.
func TestRecOfApart(t *testing.T) {
	seen := map[string]impl.Rec{}
	for _, r := range append(goodRecs(), fewRecs()...) {
		data := string(impl.RecOf(r))
		if other, ok := seen[data]; ok && other != r {
			t.Errorf("%v and %v have the same bytes", r, other)
		}
		seen[data] = r
	}
}

func TestRecReadLengths(t *testing.T) {
	failRecRead(t, "nil", nil)
	failRecRead(t, "no bytes", []byte{})
	for _, r := range fewRecs() {
		full := impl.RecOf(r)
		for n := range len(full) {
			failRecRead(t, "short", full[:n])
			failRecRead(t, "short", full[37-n:])
		}
		for _, more := range []int{1, 2, 33, 37, 300} {
			failRecRead(t, "long", append(bytes.Clone(full), make([]byte, more)...))
			failRecRead(t, "long", append(make([]byte, more), full...))
			failRecRead(t, "long", append(bytes.Clone(full), bytes.Repeat([]byte{'a'}, more)...))
		}
		failRecRead(t, "twice", append(bytes.Clone(full), full...))
	}
	for n := range 120 {
		if ok := wantRec(t, make([]byte, n)); ok != (n == 37) {
			t.Errorf("RecRead of %d zero bytes: %v", n, ok)
		}
	}
	failRecRead(t, "a Pad alone", impl.Pad("ab"))
}

// TestRecReadAnyByte changes one byte of the data to any other.
func TestRecReadAnyByte(t *testing.T) {
	for _, r := range fewRecs() {
		full := impl.RecOf(r)
		for at := range full {
			data := bytes.Clone(full)
			valid := 0
			for v := range 256 {
				data[at] = byte(v)
				if wantRec(t, data) {
					valid++
				}
			}
			want := recValues(r, at)
			if valid != want {
				t.Errorf("%v: %d values are possible for the byte %d, not %d", r, valid, at, want)
			}
		}
	}
}

// recValues returns how many values the byte at an index may have if the other bytes of a record stay.
func recValues(r impl.Rec, at int) int {
	switch {
	case !r.Live || at == 0 || at == 4:
		return 1
	case at == 1:
		return 8
	case at == 2 || at == 3:
		return 256
	case at < 5+len(r.Word):
		return 26
	}
	return 1
}

func TestRecReadAlmostEmpty(t *testing.T) {
	for at := range 37 {
		for v := 1; v < 256; v++ {
			data := make([]byte, 37)
			data[at] = byte(v)
			failRecRead(t, "empty but for one byte", data)
		}
	}
	for _, w := range recWords() {
		failRecRead(t, "a word without its record", append(make([]byte, 4), impl.Pad(w)...))
	}
	for _, head := range [][]byte{{1, 0, 0, 0}, {1, 7, 255, 255}, {1, 2, 1, 2}, {0, 2, 1, 2}, {0, 0, 1, 2}, {0, 2, 0, 0}} {
		failRecRead(t, "a record without a word", append(bytes.Clone(head), make([]byte, 33)...))
	}
}

func TestRecReadFirstBytes(t *testing.T) {
	for _, r := range fewRecs() {
		for v := range 256 {
			data := impl.RecOf(r)
			before := data[0]
			data[0] = byte(v)
			if byte(v) != before {
				failRecRead(t, "first byte", data)
			}
			data = impl.RecOf(r)
			data[1] = byte(v)
			if v > 7 {
				failRecRead(t, "too great a distance", data)
			}
		}
	}
}

func TestRecReadOtherPads(t *testing.T) {
	heads := [][]byte{{1, 0, 0, 0}, {1, 2, 1, 2}, {1, 7, 255, 255}, {0, 0, 0, 0}, {0, 2, 1, 2}}
	for what, pad := range notPads() {
		for _, head := range heads {
			data := append(bytes.Clone(head), pad...)
			if bytes.Equal(data, make([]byte, 37)) {
				continue
			}
			failRecRead(t, what, data)
		}
	}
	for n := 1; n <= 32; n++ {
		full := impl.RecOf(live(2, 258, wordOfLen(n)))
		for v := range 256 {
			if v != n {
				data := bytes.Clone(full)
				data[4] = byte(v)
				failRecRead(t, "length of the word", data)
			}
		}
		for at := 5 + n; at < 37; at++ {
			data := bytes.Clone(full)
			data[at] = 'a'
			failRecRead(t, "letter behind the word", data)
		}
		data := append(bytes.Clone(full[:4]), wordOfLen(33)...)
		failRecRead(t, "letters alone", data)
		if n < 32 {
			failRecRead(t, "blanks behind the word", append(bytes.Clone(full[:5+n]), strings.Repeat(" ", 32-n)...))
		}
	}
}

// TestRecReadAnyData passes random bytes, and the bytes of records after a few random changes.
func TestRecReadAnyData(t *testing.T) {
	r := rand.New(rand.NewPCG(121, 122))
	valid := 0
	for range 100000 {
		data := impl.RecOf(anyRec(r))
		for range r.IntN(4) {
			at := r.IntN(len(data))
			data[at] = []byte{0, 1, 2, 7, 8, 32, 33, 'a', 'z', 255, byte(r.IntN(256))}[r.IntN(11)]
		}
		switch r.IntN(30) {
		case 0:
			data = data[:r.IntN(38)]
		case 1:
			data = append(data, make([]byte, r.IntN(3))...)
		case 2:
			data = someBytes(37, r.Uint64())
		}
		if wantRec(t, data) {
			valid++
		}
	}
	if valid < 20000 || valid > 80000 {
		t.Errorf("%d of 100000 are valid, so the test says little", valid)
	}
}

// anyRec returns a random valid record; two of them often share fields.
func anyRec(r *rand.Rand) impl.Rec {
	words := recWords()
	switch r.IntN(6) {
	case 0:
		return impl.Rec{}
	case 1:
		return live(r.IntN(8), r.IntN(65536), alphabet[r.IntN(26):][:1]+anyString(r, alphabet, 31))
	}
	return live(r.IntN(3), []int{0, 1, 256, 65535}[r.IntN(4)], words[r.IntN(len(words))])
}

func TestRecReadKeepsItsArgument(t *testing.T) {
	for _, r := range fewRecs() {
		room := append(impl.RecOf(r), 9, 8, 7)
		whole := bytes.Clone(room)
		got, ok := impl.RecRead(room[:37])
		if !ok || got != r || !bytes.Equal(room, whole) {
			t.Errorf("RecRead of RecOf(%v) with room behind it: %v, %v", r, got, ok)
		}
		spoilBytes(room)
		if got != r {
			t.Errorf("%v shares memory with the data", r)
		}
		// The bytes behind the length would complete the record.
		data := impl.RecOf(r)
		failRecRead(t, "short", data[:36])
	}
}

// TestRecAheadOfPairs holds the order of all pairs against the model, the invalid ones included.
func TestRecAheadOfPairs(t *testing.T) {
	good := append(goodRecs(), fewRecs()...)
	for _, a := range good {
		for _, b := range good {
			want := modelAhead(a, b)
			if got := impl.RecAhead(a, b); got != want {
				t.Fatalf("RecAhead(%v, %v): %v", a, b, got)
			}
			if back := modelAhead(b, a); a != b && want == back || a == b && (want || back) {
				t.Fatalf("%v and %v: %v and %v", a, b, want, back)
			}
		}
	}
	for _, bad := range badRecs() {
		for _, r := range fewRecs() {
			if impl.RecAhead(bad, r) || impl.RecAhead(r, bad) {
				t.Errorf("%v and %v: one precedes the other", bad, r)
			}
		}
		for _, other := range badRecs() {
			if impl.RecAhead(bad, other) {
				t.Errorf("%v precedes %v", bad, other)
			}
		}
	}
}

// TestRecAheadWritten has pairs in their order: the first field that differs decides, whatever stands in the later ones.
func TestRecAheadWritten(t *testing.T) {
	list := [][2]impl.Rec{
		{live(7, 0, strings.Repeat("z", 32)), {}},
		{live(0, 0, "a"), {}},
		{live(0, 0, "b"), live(1, 65535, "a")},
		{live(6, 0, "b"), live(7, 65535, "a")},
		{live(0, 1, "a"), live(7, 1, "a")},
		{live(2, 300, "b"), live(2, 258, "a")},
		{live(2, 256, "b"), live(2, 255, "a")},
		{live(2, 65535, "b"), live(2, 0, "a")},
		{live(2, 1, "a"), live(2, 0, "a")},
		{live(2, 258, "a"), live(2, 258, "b")},
		{live(2, 258, "a"), live(2, 258, "aa")},
		{live(2, 258, "az"), live(2, 258, "b")},
		{live(2, 258, "ab"), live(2, 258, "abc")},
		{live(0, 0, "y"), live(0, 0, "z")},
		{live(7, 65535, wordOfLen(31)), live(7, 65535, wordOfLen(32))},
		{live(7, 65535, wordOfLen(32)), live(7, 65535, wordOfLen(31)+"z")},
		{live(7, 65535, wordOfLen(32)), live(7, 65535, "b")},
	}
	for _, x := range list {
		if !impl.RecAhead(x[0], x[1]) || impl.RecAhead(x[1], x[0]) {
			t.Errorf("%v and %v are not in this order", x[0], x[1])
		}
		wantPair(t, x[0], x[1], x[0], x[1])
		wantPair(t, x[1], x[0], x[0], x[1])
	}
}

// TestRecAheadIsAnOrder asks that of two different records exactly one precedes the other, and that this is transitive.
func TestRecAheadIsAnOrder(t *testing.T) {
	list := goodRecs()
	ahead := make([][]bool, len(list))
	for i, a := range list {
		for j, b := range list {
			ahead[i] = append(ahead[i], impl.RecAhead(a, b))
			if i == j && ahead[i][j] {
				t.Errorf("%v precedes itself", a)
			}
			if i > j && ahead[i][j] == ahead[j][i] {
				t.Errorf("%v and %v: not exactly one precedes the other", a, b)
			}
		}
	}
	for i := range list {
		for j := range list {
			for k := range list {
				if ahead[i][j] && ahead[j][k] && !ahead[i][k] {
					t.Fatalf("%v, %v, %v: not transitive", list[i], list[j], list[k])
				}
			}
		}
	}
}

// TestRecAheadSorts sorts records by RecAhead alone and finds them by distance, then by weight, then by word.
func TestRecAheadSorts(t *testing.T) {
	var want []impl.Rec
	words := []string{"a", "aa", "ab", "b", "z"}
	for dist := range 8 {
		for _, weight := range []int{65535, 258, 256, 255, 1, 0} {
			for _, w := range words {
				want = append(want, live(dist, weight, w))
			}
		}
	}
	want = append(want, impl.Rec{}, impl.Rec{})
	got := slices.Clone(want)
	r := rand.New(rand.NewPCG(123, 124))
	r.Shuffle(len(got), func(i int, j int) { got[i], got[j] = got[j], got[i] })
	for last := len(got) - 1; last > 0; last-- {
		for i := range last {
			got[i], got[i+1] = impl.RecPair(got[i], got[i+1])
		}
	}
	if !slices.Equal(got, want) {
		t.Errorf("the records become %v", got)
	}
}

func TestRecAheadOfAnyPair(t *testing.T) {
	r := rand.New(rand.NewPCG(125, 126))
	for range 50000 {
		a, b := anyRec(r), anyRec(r)
		if got := impl.RecAhead(a, b); got != modelAhead(a, b) {
			t.Fatalf("RecAhead(%v, %v): %v", a, b, got)
		}
	}
}

func TestRecPairOfPairs(t *testing.T) {
	good := append(goodRecs(), fewRecs()...)
	for _, a := range good {
		for _, b := range good {
			if modelAhead(b, a) {
				wantPair(t, a, b, b, a)
			} else {
				wantPair(t, a, b, a, b)
			}
		}
	}
	for _, bad := range badRecs() {
		for _, r := range fewRecs() {
			wantPair(t, bad, r, bad, r)
			wantPair(t, r, bad, r, bad)
		}
		for _, other := range badRecs() {
			wantPair(t, bad, other, bad, other)
		}
	}
}

// wantRecs asks RecsOk about a list with records behind its end, none of which is modified.
func wantRecs(t *testing.T, what string, list []impl.Rec, want bool) {
	t.Helper()
	for _, behind := range []impl.Rec{{}, live(8, 0, "a"), live(0, 0, "a")} {
		room := append(slices.Clone(list), behind, behind)
		whole := slices.Clone(room)
		if got := impl.RecsOk(room[:len(list)]); got != want {
			t.Errorf("%s: RecsOk of %d records is %v", what, len(list), got)
		}
		if !slices.Equal(room, whole) {
			t.Errorf("%s: RecsOk of %d records modifies them", what, len(list))
		}
	}
}

func TestRecsOkLengths(t *testing.T) {
	if !impl.RecsOk(nil) || !impl.RecsOk([]impl.Rec{}) {
		t.Error("no records")
	}
	for n := range 200 {
		var some []impl.Rec
		good := fewRecs()
		for i := range n {
			some = append(some, good[i%len(good)])
		}
		same := slices.Repeat([]impl.Rec{live(1, 1, "ab")}, n)
		for _, list := range [][]impl.Rec{some, same, make([]impl.Rec, n)} {
			wantRecs(t, "length", list, n <= 64)
		}
	}
	wantRecs(t, "length", make([]impl.Rec, impl.MaxNet), true)
	wantRecs(t, "length", make([]impl.Rec, impl.MaxNet+1), false)
	wantRecs(t, "length", make([]impl.Rec, 100000), false)
}

// TestRecsOkPlaces puts an empty or an invalid record at the first, a middle and the last place.
func TestRecsOkPlaces(t *testing.T) {
	for _, n := range []int{1, 2, 3, 10, 63, 64, 65} {
		for _, fill := range []impl.Rec{live(7, 65535, wordOfLen(32)), live(0, 0, "a"), {}} {
			for _, at := range []int{0, n / 2, n - 1} {
				list := slices.Repeat([]impl.Rec{fill}, n)
				for _, r := range fewRecs() {
					list[at] = r
					wantRecs(t, "valid record", list, n <= 64)
				}
				for _, bad := range badRecs() {
					list[at] = bad
					wantRecs(t, "invalid record", list, false)
				}
			}
		}
	}
	for at := range impl.MaxNet {
		list := slices.Repeat([]impl.Rec{live(1, 1, "ab")}, impl.MaxNet)
		list[at] = impl.Rec{}
		wantRecs(t, "empty record", list, true)
		list[at] = impl.Rec{Weight: 1}
		wantRecs(t, "invalid record", list, false)
	}
}

// TestRecKeepsNothing asks for the same results in another order, after other calls.
func TestRecKeepsNothing(t *testing.T) {
	r := rand.New(rand.NewPCG(127, 128))
	type answer struct {
		a     impl.Rec
		b     impl.Rec
		data  []byte
		ahead bool
	}
	var all []answer
	for range 500 {
		a, b := anyRec(r), anyRec(r)
		all = append(all, answer{a, b, impl.RecOf(a), impl.RecAhead(a, b)})
	}
	r.Shuffle(len(all), func(i int, j int) { all[i], all[j] = all[j], all[i] })
	for _, x := range all {
		impl.RecRead(nil)
		impl.RecRead(impl.RecOf(x.b))
		back, ok := impl.RecRead(x.data)
		if !ok || back != x.a || impl.RecAhead(x.a, x.b) != x.ahead || !bytes.Equal(impl.RecOf(x.a), x.data) {
			t.Fatalf("%v and %v: other results than before", x.a, x.b)
		}
	}
}
