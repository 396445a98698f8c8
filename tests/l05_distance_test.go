package tests

import (
	"fmt"
	"math"
	"math/rand/v2"
	"strings"
	"testing"

	"loop.example/g00663/impl"
)

// stringsOf returns all strings of the given bytes with at most n of them.
func stringsOf(letters string, n int) []string {
	list := []string{""}
	last := list
	for range n {
		var next []string
		for _, w := range last {
			for i := range len(letters) {
				next = append(next, w+letters[i:i+1])
			}
		}
		list, last = append(list, next...), next
	}
	return list
}

// anyString returns at most n of the given bytes.
func anyString(r *rand.Rand, letters string, n int) string {
	data := make([]byte, r.IntN(n+1))
	for i := range data {
		data[i] = letters[r.IntN(len(letters))]
	}
	return string(data)
}

// nearString returns w after a few random changes, with at most n bytes.
func nearString(r *rand.Rand, letters string, w string, n int) string {
	for range r.IntN(9) {
		at := r.IntN(len(w) + 1)
		x := letters[r.IntN(len(letters)):][:1]
		switch r.IntN(3) {
		case 0:
			w = w[:at] + x + w[at:]
		case 1:
			w = w[:at] + w[min(at+1, len(w)):]
		case 2:
			w = w[:at] + x + w[min(at+1, len(w)):]
		}
	}
	return w[:min(n, len(w))]
}

// allEdits returns all edits that transform a into b, by trying each edit where it is possible.
func allEdits(a string, b string) []string {
	if a == "" && b == "" {
		return []string{""}
	}
	var list []string
	add := func(edit string, rest []string) {
		for _, e := range rest {
			list = append(list, edit+e)
		}
	}
	if a != "" {
		add("d", allEdits(a[1:], b))
	}
	if b != "" {
		add("i", allEdits(a, b[1:]))
	}
	if a != "" && b != "" && a[0] == b[0] {
		add("k", allEdits(a[1:], b[1:]))
	}
	if a != "" && b != "" && a[0] != b[0] {
		add("s", allEdits(a[1:], b[1:]))
	}
	return list
}

// costOf counts the edits that are no k.
func costOf(edits string) int {
	return len(strings.ReplaceAll(edits, "k", ""))
}

// better reports whether the edits x cost less than y, or as much and are less bytewise.
func better(x string, y string) bool {
	if costOf(x) != costOf(y) {
		return costOf(x) < costOf(y)
	}
	return bytewise(x, y) < 0
}

// bestEdits returns, of all edits of least cost, the least ones.
func bestEdits(a string, b string) string {
	list := allEdits(a, b)
	best := list[0]
	for _, e := range list {
		if better(e, best) {
			best = e
		}
	}
	return best
}

// bestOfLong finds the same for long strings, where all edits would be too many: it holds, for each
// pair of endings of a and b, the whole edits against each other.
func bestOfLong(a string, b string) string {
	best := map[[2]int]string{}
	for i := len(a); i >= 0; i-- {
		for j := len(b); j >= 0; j-- {
			var list []string
			if i < len(a) {
				list = append(list, "d"+best[[2]int{i + 1, j}])
			}
			if j < len(b) {
				list = append(list, "i"+best[[2]int{i, j + 1}])
			}
			if i < len(a) && j < len(b) && a[i] == b[j] {
				list = append(list, "k"+best[[2]int{i + 1, j + 1}])
			}
			if i < len(a) && j < len(b) && a[i] != b[j] {
				list = append(list, "s"+best[[2]int{i + 1, j + 1}])
			}
			for at, e := range list {
				if at == 0 || better(e, best[[2]int{i, j}]) {
					best[[2]int{i, j}] = e
				}
			}
		}
	}
	return best[[2]int{0, 0}]
}

// wantEdits asks all functions about two strings whose least edits of least cost are given.
func wantEdits(t *testing.T, a string, b string, edits string) {
	t.Helper()
	cost := costOf(edits)
	if got := impl.Distance(a, b); got != cost {
		t.Errorf("Distance(%q, %q): %d, want %d", a, b, got, cost)
	}
	if got := impl.Capped(a, b); got != min(7, cost) {
		t.Errorf("Capped(%q, %q): %d, want %d", a, b, got, min(7, cost))
	}
	for _, d := range []int{cost, cost + 1, cost + 100, math.MaxInt} {
		if !impl.Within(a, b, d) {
			t.Errorf("Within(%q, %q, %d): false, the distance is %d", a, b, d, cost)
		}
	}
	for _, d := range []int{cost - 1, -1, -2, -cost - 1, math.MinInt, math.MinInt + 1} {
		if impl.Within(a, b, d) {
			t.Errorf("Within(%q, %q, %d): true, the distance is %d", a, b, d, cost)
		}
	}
	if impl.Within(a, b, 0) != (a == b) {
		t.Errorf("Within(%q, %q, 0): %v", a, b, a != b)
	}
	if got := impl.EditText(a, b); got != edits {
		t.Errorf("EditText(%q, %q): %q, want %q", a, b, got, edits)
	}
	wantCost(t, edits, a, b, cost)
}

func wantCost(t *testing.T, edits string, a string, b string, want int) {
	t.Helper()
	if got := impl.EditCost(edits, a, b); got != want {
		t.Errorf("EditCost(%q, %q, %q): %d, want %d", edits, a, b, got, want)
	}
}

// failEdits asks all functions about two strings of which one is too long.
func failEdits(t *testing.T, a string, b string) {
	t.Helper()
	what := fmt.Sprintf("%d and %d bytes", len(a), len(b))
	if got := impl.Distance(a, b); got != -1 {
		t.Errorf("Distance of %s: %d", what, got)
	}
	if got := impl.Capped(a, b); got != -1 {
		t.Errorf("Capped of %s: %d", what, got)
	}
	for _, d := range []int{math.MinInt, -2, -1, 0, 1, 7, 32, 33, 64, 65, 100000, math.MaxInt} {
		if impl.Within(a, b, d) {
			t.Errorf("Within of %s and %d: true", what, d)
		}
	}
	if got := impl.EditText(a, b); got != "" {
		t.Errorf("EditText of %s: %q", what, got)
	}
	d, i := strings.Repeat("d", len(a)), strings.Repeat("i", len(b))
	k, s := strings.Repeat("k", min(len(a), len(b))), strings.Repeat("s", min(len(a), len(b)))
	for _, edits := range []string{"", d + i, i + d, d, i, k, s, k + d[len(k):] + i[len(k):], s + d[len(s):] + i[len(s):], "x"} {
		if got := impl.EditCost(edits, a, b); got != -1 {
			t.Errorf("EditCost of %d edits, %s: %d", len(edits), what, got)
		}
	}
}

func TestDistanceExamples(t *testing.T) {
	if impl.MaxDist != 7 {
		t.Error("MaxDist")
	}
	if impl.Distance("abc", "abd") != 1 || impl.Capped("aaaaaaaaa", "") != 7 || impl.Within("abc", "abd", 0) {
		t.Error("Distance, Capped, Within")
	}
	if impl.EditText("abc", "abd") != "kks" || impl.EditText("ab", "ba") != "dki" || impl.EditText("aa", "a") != "dk" {
		t.Error("EditText")
	}
	if impl.EditCost("ss", "ab", "ba") != 2 || impl.EditCost("k", "a", "b") != -1 {
		t.Error("EditCost")
	}
}

func TestDistanceOfKnownStrings(t *testing.T) {
	known := []struct {
		a, b, edits string
	}{
		{"", "", ""},
		{"a", "", "d"},
		{"", "a", "i"},
		{"a", "a", "k"},
		{"a", "b", "s"},
		{"a", "ab", "ki"},
		{"a", "ba", "ik"},
		{"ab", "a", "kd"},
		{"ab", "b", "dk"},
		{"a", "aa", "ik"},
		{"aaa", "a", "ddk"},
		{"a", "aaa", "iik"},
		{"ab", "ba", "dki"},
		{"abc", "abd", "kks"},
		{"ab", "cd", "ss"},
		{"ab", "c", "ds"},
		{"c", "ab", "is"},
		{"abcd", "bcda", "dkkki"},
		{"kitten", "sitting", "skkkski"},
		{"sitting", "kitten", "skkkskd"},
		{"flaw", "lawn", "dkkki"},
		{"saturday", "sunday", "kddkskkk"},
		{"aaaa", "bbbb", "ssss"},
	}
	for _, x := range known {
		wantEdits(t, x.a, x.b, x.edits)
	}
}

// TestDistanceOfOneEmpty includes the least and the greatest length.
func TestDistanceOfOneEmpty(t *testing.T) {
	for n := 0; n <= impl.MaxWord; n++ {
		for _, w := range []string{wordOfLen(n), strings.Repeat("a", n), strings.Repeat("\x00", n), strings.Repeat("\xff", n)} {
			wantEdits(t, w, "", strings.Repeat("d", n))
			wantEdits(t, "", w, strings.Repeat("i", n))
			wantEdits(t, w, w, strings.Repeat("k", n))
		}
	}
	for n := impl.MaxWord + 1; n <= 3*impl.MaxWord; n++ {
		failEdits(t, wordOfLen(n), "")
		failEdits(t, "", wordOfLen(n))
	}
}

func TestDistanceLengths(t *testing.T) {
	lengths := []int{0, 1, 2, 7, 16, 31, 32, 33, 34, 63, 64, 65, 255, 256, 257, 288, 1000, 65536}
	for _, m := range lengths {
		for _, n := range lengths {
			a, b, c := wordOfLen(m), wordOfLen(n), strings.Repeat("?", n)
			if m > 32 || n > 32 {
				failEdits(t, a, b)
				failEdits(t, a, c)
				failEdits(t, c, a)
				continue
			}
			wantEdits(t, a, b, bestOfLong(a, b))
			// Without a common byte the shorter string is substituted and the rest comes first.
			lead := strings.Repeat("d", max(0, m-n)) + strings.Repeat("i", max(0, n-m))
			wantEdits(t, a, c, lead+strings.Repeat("s", min(m, n)))
		}
	}
	for _, w := range []string{wordOfLen(33), wordOfLen(64), strings.Repeat("a", 100000)} {
		failEdits(t, w, w)
		failEdits(t, w, w[:32])
		failEdits(t, w[:32], w)
	}
	wantEdits(t, wordOfLen(33)[:32], wordOfLen(33)[1:], "d"+strings.Repeat("k", 31)+"i")
}

// TestDistanceOfAnyBytes takes each pair of bytes: only equal ones are alike, and letters are not folded.
func TestDistanceOfAnyBytes(t *testing.T) {
	for v := range 256 {
		for w := range 256 {
			a, b := string([]byte{byte(v)}), string([]byte{byte(w)})
			edits := "s"
			if v == w {
				edits = "k"
			}
			if impl.Distance(a, b) != costOf(edits) || impl.EditText(a, b) != edits || impl.EditCost(edits, a, b) != costOf(edits) {
				t.Errorf("%q and %q: %d, %q", a, b, impl.Distance(a, b), impl.EditText(a, b))
			}
			if impl.EditCost("k", a, b) >= 0 != (v == w) || impl.EditCost("s", a, b) >= 0 != (v != w) || impl.EditCost("di", a, b) != 2 || impl.EditCost("id", a, b) != 2 {
				t.Errorf("EditCost with %q and %q", a, b)
			}
		}
	}
	wantEdits(t, "ABC", "abc", "sss")
	wantEdits(t, "a b", "ab", "kdk")
	wantEdits(t, " ", "", "d")
	wantEdits(t, "\x00", "", "d")
	wantEdits(t, "\x00\x00", "\x00", "dk")
	wantEdits(t, "a\x00", "a", "kd")
	wantEdits(t, "\xff\x00\xff", "\x00\xff\x00", "dkki")
	// A letter beyond the first 128 is as many bytes as it has.
	wantEdits(t, "é", "", "dd")
	wantEdits(t, "é", "e", "ds")
	wantEdits(t, "é", "è", "ks")
	wantEdits(t, "\ufffd", "\xff", "dds")
	wantEdits(t, strings.Repeat("é", 16), "", strings.Repeat("d", 32))
	failEdits(t, strings.Repeat("é", 17), "")
	failEdits(t, strings.Repeat("\xff", 33), strings.Repeat("\xff", 33))
	failEdits(t, strings.Repeat("\x00", 33), "")
}

func TestCappedAroundItsLimit(t *testing.T) {
	for dist := 0; dist <= impl.MaxWord; dist++ {
		want := min(dist, impl.MaxDist)
		a := wordOfLen(impl.MaxWord)
		for _, b := range []string{a[dist:], a[:32-dist], strings.Repeat("?", dist) + a[dist:]} {
			if got := impl.Capped(a, b); got != want || impl.Capped(b, a) != want {
				t.Errorf("Capped where the distance is %d: %d", dist, got)
			}
			if got := impl.Distance(a, b); got != dist {
				t.Errorf("Distance(%q, %q): %d, want %d", a, b, got, dist)
			}
		}
	}
	for _, n := range []int{5, 6, 7, 8, 9, 32} {
		wantEdits(t, strings.Repeat("a", n), "", strings.Repeat("d", n))
	}
}

// TestDistanceAgainstAllEdits states the greater part of promise 6 for short strings: the edits are
// possible, no others cost less, and of those that cost as much none is less.
func TestDistanceAgainstAllEdits(t *testing.T) {
	for _, list := range [][]string{stringsOf("ab", 4), stringsOf("abc", 3), stringsOf("\x00z\xff", 3), stringsOf("aA ", 3)} {
		for _, a := range list {
			for _, b := range list {
				wantEdits(t, a, b, bestEdits(a, b))
			}
		}
	}
	r := rand.New(rand.NewPCG(51, 52))
	for range 300 {
		a := anyString(r, "abcd", 6)
		b := nearString(r, "abcd", a, 6)
		best := bestEdits(a, b)
		if best != bestOfLong(a, b) {
			t.Fatalf("the test's own models differ for %q and %q", a, b)
		}
		wantEdits(t, a, b, best)
	}
}

func TestDistanceOfLongStrings(t *testing.T) {
	r := rand.New(rand.NewPCG(53, 54))
	for _, letters := range []string{"a", "ab", "abc", alphabet, "\x00\x01\x7f\x80\xff", "aA bB"} {
		for range 60 {
			a := anyString(r, letters, impl.MaxWord)
			b := anyString(r, letters, impl.MaxWord)
			wantEdits(t, a, b, bestOfLong(a, b))
			c := nearString(r, letters, a, impl.MaxWord)
			wantEdits(t, a, c, bestOfLong(a, c))
			wantEdits(t, c, a, bestOfLong(c, a))
		}
	}
}

// wantMetric asks for the laws of a distance.
func wantMetric(t *testing.T, a string, b string, c string) {
	t.Helper()
	ab, ba, bc, ac := impl.Distance(a, b), impl.Distance(b, a), impl.Distance(b, c), impl.Distance(a, c)
	if ab != ba {
		t.Fatalf("Distance(%q, %q) is %d, and %d the other way", a, b, ab, ba)
	}
	if ab < 0 || (ab == 0) != (a == b) {
		t.Fatalf("Distance(%q, %q) is %d", a, b, ab)
	}
	if ac > ab+bc {
		t.Fatalf("from %q to %q it is %d, by way of %q %d and %d", a, c, ac, b, ab, bc)
	}
}

func TestDistanceIsAMetric(t *testing.T) {
	list := append(stringsOf("ab", 3), stringsOf("xyz", 2)...)
	for _, a := range list {
		for _, b := range list {
			for _, c := range list {
				wantMetric(t, a, b, c)
			}
		}
	}
	r := rand.New(rand.NewPCG(55, 56))
	for range 4000 {
		letters := []string{"ab", "abcd", alphabet, "\x00\x80\xff"}[r.IntN(4)]
		a := anyString(r, letters, impl.MaxWord)
		b := nearString(r, letters, a, impl.MaxWord)
		c := nearString(r, letters, b, impl.MaxWord)
		wantMetric(t, a, b, c)
		wantMetric(t, b, a, c)
		wantMetric(t, a, anyString(r, letters, impl.MaxWord), c)
	}
}

// TestEditCostAgainstAllEdits asks for the cost of every short string of edits, also of those with
// another character: those that transform a into b have their cost, and no others have one.
func TestEditCostAgainstAllEdits(t *testing.T) {
	words := stringsOf("ab", 2)
	for _, letters := range []string{"diks", "dikx", "dsK\x00"} {
		edits := stringsOf(letters, 5)
		for _, a := range words {
			for _, b := range words {
				possible := map[string]bool{}
				for _, e := range allEdits(a, b) {
					possible[e] = true
				}
				for _, e := range edits {
					want := -1
					if possible[e] {
						want = costOf(e)
					}
					wantCost(t, e, a, b, want)
				}
			}
		}
	}
}

func TestEditCostOfOtherCharacters(t *testing.T) {
	for v := range 256 {
		x := string([]byte{byte(v)})
		for _, y := range []struct {
			a, b string
		}{{"a", "a"}, {"a", "b"}, {"a", ""}, {"", "a"}, {"", ""}} {
			want := -1
			for _, e := range allEdits(y.a, y.b) {
				if e == x {
					want = costOf(e)
				}
			}
			wantCost(t, x, y.a, y.b, want)
		}
		if strings.Contains("diks", x) {
			continue
		}
		for _, e := range []string{"kk" + x, "k" + x + "k", x + "kk", "k" + x, x + "k", "dd" + x + "ii", "ddii" + x} {
			wantCost(t, e, "ab", "ab", -1)
		}
	}
	wantCost(t, "é", "ab", "ab", -1)
	wantCost(t, "KK", "ab", "ab", -1)
	wantCost(t, "k k", "ab", "ab", -1)
	wantCost(t, "kk\n", "ab", "ab", -1)
}

func TestEditCostOfImpossibleEdits(t *testing.T) {
	bad := []struct {
		edits, a, b string
	}{
		// k over different bytes and s over equal ones, first, last and between.
		{"k", "a", "b"}, {"kk", "ab", "ac"}, {"kk", "ca", "ba"}, {"kkk", "abc", "axc"}, {"kd", "ba", "a"}, {"ki", "a", "ba"},
		{"s", "a", "a"}, {"ss", "ab", "cb"}, {"ss", "ab", "ac"}, {"ks", "ab", "ab"}, {"sk", "ab", "ab"}, {"sd", "ab", "a"}, {"dis", "ab", "ab"},
		// Behind the end of one string or of both.
		{"d", "", ""}, {"d", "", "a"}, {"dd", "a", ""}, {"kd", "a", "a"}, {"sd", "a", "b"}, {"id", "", "a"}, {"di", "", "a"},
		{"i", "", ""}, {"i", "a", ""}, {"ii", "", "a"}, {"ki", "a", "a"}, {"si", "a", "b"}, {"di", "a", ""}, {"id", "a", ""},
		{"k", "", ""}, {"k", "a", ""}, {"k", "", "a"}, {"kk", "a", "a"}, {"kk", "aa", "a"}, {"kk", "a", "aa"},
		{"s", "", ""}, {"s", "a", ""}, {"s", "", "a"}, {"ss", "a", "b"}, {"ss", "ab", "b"}, {"ss", "a", "ba"},
		{"k", "\x00", ""}, {"k", "", "\x00"}, {"s", "\x01", ""}, {"s", "", "\x01"},
		// Only a part of a string is passed.
		{"", "a", ""}, {"", "", "a"}, {"", "a", "a"}, {"", "ab", "cd"}, {"d", "ab", ""}, {"i", "", "ab"}, {"k", "ab", "a"}, {"k", "a", "ab"},
		{"k", "ab", "ab"}, {"s", "ab", "c"}, {"s", "a", "bc"}, {"dd", "ab", "ab"}, {"ii", "ab", "ab"}, {"kks", "abcd", "abd"}, {"kks", "abc", "abde"},
	}
	for _, x := range bad {
		wantCost(t, x.edits, x.a, x.b, -1)
	}
	wantCost(t, "", "", "", 0)
	for n := 1; n <= impl.MaxWord; n++ {
		w := wordOfLen(n)
		wantCost(t, "", w, "", -1)
		wantCost(t, "", "", w, -1)
		wantCost(t, "", w, w, -1)
		k := strings.Repeat("k", n)
		for i := range n {
			wantCost(t, k[:i], w, w, -1)
			wantCost(t, k[:i]+"s"+k[i+1:], w, w, -1)
			wantCost(t, k[:i]+"di"+k[i+1:], w, w, 2)
			wantCost(t, k[:i]+"id"+k[i+1:], w, w, 2)
			wantCost(t, k, w, w[:i]+"?"+w[i+1:], -1)
			wantCost(t, k[:i]+"s"+k[i+1:], w, w[:i]+"?"+w[i+1:], 1)
		}
		wantCost(t, k+"k", w, w, -1)
	}
}

func TestEditCostOfManyEdits(t *testing.T) {
	a, b := wordOfLen(32), strings.Repeat("?", 32)
	d, i := strings.Repeat("d", 32), strings.Repeat("i", 32)
	for _, w := range []string{a, b} {
		wantCost(t, d+i, a, w, 64)
		wantCost(t, i+d, a, w, 64)
		wantCost(t, strings.Repeat("di", 32), a, w, 64)
		for _, more := range []string{"d", "i", "k", "s", "x"} {
			wantCost(t, d+i+more, a, w, -1)
			wantCost(t, more+d+i, a, w, -1)
			wantCost(t, d+more+i, a, w, -1)
		}
		wantCost(t, d[1:]+i, a, w, -1)
		wantCost(t, d+i[1:], a, w, -1)
		wantCost(t, d[1:]+i, a[1:], w, 63)
		wantCost(t, d+i[1:], a, w[1:], 63)
		wantCost(t, d+i, a[1:], w, -1)
		wantCost(t, d+i, a, w[1:], -1)
	}
	for _, n := range []int{33, 64, 65, 66, 128, 256, 288, 100000} {
		for _, edit := range []string{"d", "i", "k", "s", "x"} {
			wantCost(t, strings.Repeat(edit, n), a, a, -1)
			wantCost(t, strings.Repeat(edit, n), a, b, -1)
			wantCost(t, strings.Repeat(edit, n), "", "", -1)
		}
	}
	wantCost(t, strings.Repeat("k", 32), a, a, 0)
	wantCost(t, strings.Repeat("s", 32), a, b, 32)
}

// TestEditTextOfManyStrings states that edits cost Distance, without a model of the test's own.
func TestEditTextOfManyStrings(t *testing.T) {
	r := rand.New(rand.NewPCG(57, 58))
	for range 3000 {
		letters := []string{"ab", "abcd", alphabet, "\x00\x80\xff"}[r.IntN(4)]
		a := anyString(r, letters, impl.MaxWord)
		b := nearString(r, letters, a, impl.MaxWord)
		if r.IntN(3) == 0 {
			b = anyString(r, letters, impl.MaxWord)
		}
		edits := impl.EditText(a, b)
		if impl.EditCost(edits, a, b) != impl.Distance(a, b) {
			t.Fatalf("EditText(%q, %q): %q, cost %d, distance %d", a, b, edits, impl.EditCost(edits, a, b), impl.Distance(a, b))
		}
		// The same edits with d and i exchanged lead back.
		back := strings.NewReplacer("d", "i", "i", "d").Replace(edits)
		if impl.EditCost(back, b, a) != impl.Distance(a, b) {
			t.Fatalf("%q does not lead from %q back to %q", back, b, a)
		}
	}
}

// TestDistanceKeepsNothing asks for the same distances in another order, after strings of other lengths.
func TestDistanceKeepsNothing(t *testing.T) {
	r := rand.New(rand.NewPCG(59, 60))
	type answer struct {
		a, b, edits string
		dist        int
	}
	var list []answer
	for range 300 {
		a, b := anyString(r, "abc", impl.MaxWord), anyString(r, "abc", impl.MaxWord)
		list = append(list, answer{a, b, impl.EditText(a, b), impl.Distance(a, b)})
	}
	r.Shuffle(len(list), func(i int, j int) { list[i], list[j] = list[j], list[i] })
	for _, x := range list {
		impl.Distance(wordOfLen(33), x.b)
		if impl.Distance(x.a, x.b) != x.dist || impl.EditText(x.a, x.b) != x.edits || impl.EditCost(x.edits, x.a, x.b) != x.dist {
			t.Fatalf("%q and %q: other results than before", x.a, x.b)
		}
	}
}
