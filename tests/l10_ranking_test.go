package tests

import (
	"math"
	"math/rand/v2"
	"slices"
	"strings"
	"testing"

	"loop.example/g00663/impl"
)

// empties returns so many empty records.
func empties(n int) []impl.Rec {
	return make([]impl.Rec, n)
}

func liveOf(list []impl.Rec) []impl.Rec {
	var some []impl.Rec
	for _, r := range list {
		if r.Live {
			some = append(some, r)
		}
	}
	return some
}

// modelSize is the least of 1, 2, 4, .., 64 that is at least n, or -1.
func modelSize(n int) int {
	for _, size := range []int{1, 2, 4, 8, 16, 32, 64} {
		if n >= 0 && n <= size {
			return size
		}
	}
	return -1
}

// modelRankBy takes one wire after another, by the plain rule for the order of two records.
func modelRankBy(n impl.Net, list []impl.Rec) []impl.Rec {
	work := slices.Clone(list)
	for _, w := range n.Wires {
		if modelAhead(work[w.B], work[w.A]) {
			keep := work[w.A]
			work[w.A] = work[w.B]
			work[w.B] = keep
		}
	}
	return work
}

// modelRank takes, again and again, a record that no other one that is left precedes.
func modelRank(list []impl.Rec) []impl.Rec {
	left := slices.Clone(list)
	ranked := []impl.Rec{}
	for len(left) > 0 {
		best := 0
		for i, r := range left {
			if modelAhead(r, left[best]) {
				best = i
			}
		}
		ranked = append(ranked, left[best])
		left = slices.Delete(left, best, best+1)
	}
	return ranked
}

func modelCompact(list []impl.Rec) []impl.Rec {
	some := liveOf(list)
	return append(some, empties(len(list)-len(some))...)
}

// modelTop ranks the Live records alone.
func modelTop(list []impl.Rec, k int) []impl.Rec {
	return append(modelRank(liveOf(list)), empties(k)...)[:k]
}

// spoilRecs overwrites all the memory of a list.
func spoilRecs(list []impl.Rec) {
	list = list[:cap(list)]
	for i := range list {
		list[i] = live(99, 99, "spoilt")
	}
}

// recsBehind returns what a list may have behind its length: the best, an empty and two invalid records.
func recsBehind() [][]impl.Rec {
	best, bad := live(0, 65535, "a"), live(8, 0, "")
	return [][]impl.Rec{nil, {best, best, {}, bad}, {bad, {}, best}, {{}, {}, {}, {}, best, {Weight: 1}}}
}

// wantList asks a function for what it makes of a list, twice: the list and what is behind its length stay as they are,
// and the results share no memory with the list or with each other.
func wantList(t *testing.T, what string, list []impl.Rec, want []impl.Rec, call func([]impl.Rec) []impl.Rec) {
	t.Helper()
	for _, behind := range recsBehind() {
		room := append(slices.Clone(list), behind...)
		room = slices.Clip(room)
		whole := slices.Clone(room)
		given := room[:len(list)]
		first, second := call(given), call(given)
		if !slices.Equal(first, want) {
			t.Fatalf("%s of %v is %v, not %v", what, list, first, want)
		}
		spoilRecs(first)
		if !slices.Equal(second, want) {
			t.Fatalf("%s of %v: the results of two calls share memory", what, list)
		}
		if !slices.Equal(room, whole) {
			t.Fatalf("%s of %v modifies the list or the memory behind it, or shares it", what, whole)
		}
		spoilRecs(room)
		if !slices.Equal(second, want) {
			t.Fatalf("%s of %v: the result shares memory with the list", what, list)
		}
	}
}

// wantRankBy asks RankBy twice, with memory behind the wires of the net, which stay as they are.
func wantRankBy(t *testing.T, n impl.Net, list []impl.Rec, want []impl.Rec) {
	t.Helper()
	room := append(slices.Clone(n.Wires), impl.Wire{A: 0, B: 1}, impl.Wire{A: -1, B: 99})
	whole := slices.Clone(room)
	net := impl.Net{N: n.N, Wires: room[:len(n.Wires)]}
	wantList(t, "RankBy", list, want, func(given []impl.Rec) []impl.Rec {
		return impl.RankBy(net, given)
	})
	if !slices.Equal(room, whole) {
		t.Fatalf("RankBy modifies the net %v", n)
	}
}

// wantRank asks for the Rank of a list, and all that the document says of it.
func wantRank(t *testing.T, list []impl.Rec) {
	t.Helper()
	wantList(t, "Rank", list, modelRank(list), impl.Rank)
	ranked := impl.Rank(list)
	for j := range ranked {
		for i := range j {
			if modelAhead(ranked[j], ranked[i]) || impl.RecAhead(ranked[j], ranked[i]) {
				t.Fatalf("Rank of %v: the record at index %d precedes the one at %d in %v", list, j, i, ranked)
			}
		}
	}
	if len(ranked) != len(list) {
		t.Fatalf("Rank of %d records has %d", len(list), len(ranked))
	}
	for _, r := range append(slices.Clone(list), ranked...) {
		if countOf(list, r) != countOf(ranked, r) {
			t.Fatalf("Rank of %v: %v is in it %d times and not %d times", list, r, countOf(ranked, r), countOf(list, r))
		}
	}
	wantBothNets(t, list, ranked)
}

func countOf(list []impl.Rec, one impl.Rec) int {
	count := 0
	for _, r := range list {
		if r == one {
			count++
		}
	}
	return count
}

// wantBothNets asks RankBy for the list with empty records appended, by both nets.
func wantBothNets(t *testing.T, list []impl.Rec, ranked []impl.Rec) {
	t.Helper()
	size := modelSize(len(list))
	full := append(slices.Clone(list), empties(size-len(list))...)
	want := append(slices.Clone(ranked), empties(size-len(list))...)
	for _, n := range []impl.Net{impl.Bitonic(size), impl.OddEven(size), impl.Bubble(size)} {
		if got := impl.RankBy(n, full); !slices.Equal(got, want) {
			t.Fatalf("RankBy of %d wires and %v is %v, and Rank is %v", len(n.Wires), full, got, ranked)
		}
	}
	for _, n := range []impl.Net{impl.Bitonic(len(list)), impl.OddEven(len(list)), impl.Bubble(len(list))} {
		if n.N == 0 {
			continue
		}
		if got := impl.RankBy(n, list); !slices.Equal(got, ranked) {
			t.Fatalf("RankBy of %d wires and %v is %v, and Rank is %v", len(n.Wires), list, got, ranked)
		}
	}
}

func wantCompact(t *testing.T, list []impl.Rec) {
	t.Helper()
	want := modelCompact(list)
	wantList(t, "Compact", list, want, impl.Compact)
	if again := impl.Compact(want); !slices.Equal(again, want) {
		t.Fatalf("Compact of %v, which is compact, is %v", want, again)
	}
}

// wantTop asks TopK of a list for every k.
func wantTop(t *testing.T, list []impl.Rec) {
	t.Helper()
	for k := 0; k <= 8; k++ {
		want := modelTop(list, k)
		wantList(t, "TopK", list, want, func(given []impl.Rec) []impl.Rec {
			return impl.TopK(given, k)
		})
		if ranked := append(impl.Rank(list), empties(k)...); !slices.Equal(want, ranked[:k]) {
			t.Fatalf("TopK of %v and %d is %v, and Rank is %v", list, k, want, ranked)
		}
		wantBest(t, list, impl.TopK(list, k))
	}
	for _, k := range notTops() {
		if got := impl.TopK(list, k); len(got) != 0 {
			t.Fatalf("TopK of %v and %d is %v", list, k, got)
		}
	}
}

func notTops() []int {
	return []int{-1, 9, -2, 10, -8, -9, 64, 65, 256, -256, 1 << 32, 1<<32 + 1, -1 << 32, math.MinInt, math.MinInt + 1, math.MaxInt - 1, math.MaxInt}
}

// wantBest asks that no Live record that is left over precedes one of the top.
func wantBest(t *testing.T, list []impl.Rec, top []impl.Rec) {
	t.Helper()
	left := liveOf(list)
	for _, r := range liveOf(top) {
		at := slices.Index(left, r)
		if at < 0 {
			t.Fatalf("the top %v of %v has %v too often", top, list, r)
		}
		left = slices.Delete(left, at, at+1)
	}
	for _, other := range left {
		for _, r := range top {
			if impl.RecAhead(other, r) {
				t.Fatalf("the top %v of %v leaves %v out", top, list, other)
			}
		}
	}
}

// wantAll asks Rank, Compact and TopK about a list of valid records.
func wantAll(t *testing.T, list []impl.Rec) {
	t.Helper()
	wantRank(t, list)
	wantCompact(t, list)
	wantTop(t, list)
}

// failRanking asks Rank, Compact, TopK and RankBy about a list that is not RecsOk.
func failRanking(t *testing.T, what string, list []impl.Rec) {
	t.Helper()
	wantList(t, what+": Rank", list, nil, impl.Rank)
	wantList(t, what+": Compact", list, nil, impl.Compact)
	for k := -1; k <= 9; k++ {
		if got := impl.TopK(list, k); len(got) != 0 {
			t.Fatalf("%s: TopK of %v and %d is %v", what, list, k, got)
		}
	}
	for _, n := range []impl.Net{{N: len(list)}, impl.Bitonic(len(list)), impl.Bubble(len(list)), impl.Bitonic(64), {}} {
		wantRankBy(t, n, list, nil)
	}
}

// someRecs returns so many records of the given ones, in turn.
func someRecs(good []impl.Rec, n int) []impl.Rec {
	var list []impl.Rec
	for i := range n {
		list = append(list, good[i%len(good)])
	}
	return list
}

// anyRecs returns n random records: of all kinds, of a few that are often equal, or with many empty ones.
func anyRecs(r *rand.Rand, n int) []impl.Rec {
	list := make([]impl.Rec, n)
	kind, few := r.IntN(5), tiedRecs()
	for i := range list {
		switch kind {
		case 0:
			list[i] = few[r.IntN(len(few))]
		case 1:
			list[i] = few[r.IntN(3)]
		case 2:
			if r.IntN(3) == 0 {
				list[i] = anyRec(r)
			}
		default:
			list[i] = anyRec(r)
		}
	}
	return list
}

// tiedRecs returns records of which many have the Dist, or the Dist and the Weight, in common.
func tiedRecs() []impl.Rec {
	return []impl.Rec{{}, live(1, 5, "b"), live(1, 5, "a"), live(1, 9, "b"), live(0, 5, "b"), live(1, 5, "ba"), live(0, 9, "c"), live(2, 5, "a"), live(1, 9, "a")}
}

func TestRankExamples(t *testing.T) {
	if impl.MaxTop != 8 {
		t.Error("MaxTop")
	}
	if impl.RankSize(5) != 8 || impl.RankSteps(3) != 6 {
		t.Errorf("RankSize(5) is %d, RankSteps(3) is %d", impl.RankSize(5), impl.RankSteps(3))
	}
	for _, words := range []string{"abc", "cba", "zxy", "bca"} {
		a, b, c := live(1, 5, words[:1]), live(0, 7, words[1:2]), live(1, 9, words[2:])
		list := []impl.Rec{a, {}, b, c}
		wantList(t, "Rank", list, []impl.Rec{b, c, a, {}}, impl.Rank)
		wantList(t, "Compact", list, []impl.Rec{a, b, c, {}}, impl.Compact)
		wantList(t, "TopK", list, []impl.Rec{b, c}, func(given []impl.Rec) []impl.Rec { return impl.TopK(given, 2) })
		wantAll(t, list)
	}
}

func TestRankSizes(t *testing.T) {
	numbers := []int{math.MinInt, math.MinInt + 1, math.MinInt32, -64, -65, 127, 128, 129, 1 << 16, 1 << 32, 1<<32 + 4, -1<<32 + 4, 1 << 62, math.MaxInt - 1, math.MaxInt}
	for n := -2; n <= impl.MaxNet+2; n++ {
		numbers = append(numbers, n)
	}
	for _, n := range numbers {
		size := modelSize(n)
		if got := impl.RankSize(n); got != size {
			t.Errorf("RankSize(%d) is %d, not %d", n, got, size)
		}
		steps := -1
		if size > 0 {
			steps = len(modelBitonic(size).Wires)
			if got := len(impl.Bitonic(impl.RankSize(n)).Wires); got != steps {
				t.Errorf("Bitonic(RankSize(%d)) has %d wires, not %d", n, got, steps)
			}
		}
		if got := impl.RankSteps(n); got != steps {
			t.Errorf("RankSteps(%d) is %d, not %d", n, got, steps)
		}
	}
}

// TestRankSizesWritten has the ends of the ranges in which the results are the same.
func TestRankSizesWritten(t *testing.T) {
	list := []struct{ from, to, size, steps int }{
		{-2, -1, -1, -1}, {0, 1, 1, 0}, {2, 2, 2, 1}, {3, 4, 4, 6}, {5, 8, 8, 24}, {9, 16, 16, 80}, {17, 32, 32, 240}, {33, 64, 64, 672}, {65, 66, -1, -1},
	}
	for _, x := range list {
		for n := x.from; n <= x.to; n++ {
			if size, steps := impl.RankSize(n), impl.RankSteps(n); size != x.size || steps != x.steps {
				t.Errorf("RankSize(%d) is %d, RankSteps(%d) is %d", n, size, n, steps)
			}
		}
	}
}

// TestRankByWritten has results that show each wire.
func TestRankByWritten(t *testing.T) {
	a, b, c, d, e := live(0, 1, "a"), live(0, 0, "a"), live(1, 65535, "a"), live(1, 65535, "b"), impl.Rec{}
	list := []struct {
		n    impl.Net
		list []impl.Rec
		want []impl.Rec
	}{
		{netOf(1), []impl.Rec{c}, []impl.Rec{c}},
		{netOf(1), []impl.Rec{e}, []impl.Rec{e}},
		{netOf(2), []impl.Rec{b, a}, []impl.Rec{b, a}},
		{netOf(2), []impl.Rec{e, a}, []impl.Rec{e, a}},
		{netOf(2, 0, 1), []impl.Rec{a, b}, []impl.Rec{a, b}},
		{netOf(2, 0, 1), []impl.Rec{b, a}, []impl.Rec{a, b}},
		{netOf(2, 0, 1), []impl.Rec{d, c}, []impl.Rec{c, d}},
		{netOf(2, 0, 1), []impl.Rec{c, b}, []impl.Rec{b, c}},
		{netOf(2, 0, 1), []impl.Rec{e, d}, []impl.Rec{d, e}},
		{netOf(2, 0, 1), []impl.Rec{e, e}, []impl.Rec{e, e}},
		{netOf(2, 0, 1), []impl.Rec{c, c}, []impl.Rec{c, c}},
		{netOf(2, 0, 1, 0, 1), []impl.Rec{d, a}, []impl.Rec{a, d}},
		{netOf(3, 0, 2), []impl.Rec{c, d, a}, []impl.Rec{a, d, c}},
		{netOf(3, 0, 2), []impl.Rec{c, a, d}, []impl.Rec{c, a, d}},
		{netOf(3, 0, 1, 1, 2), []impl.Rec{c, b, a}, []impl.Rec{b, a, c}},
		{netOf(3, 1, 2, 0, 1), []impl.Rec{c, b, a}, []impl.Rec{a, c, b}},
		{netOf(3, 1, 2, 0, 1, 1, 2), []impl.Rec{c, b, a}, []impl.Rec{a, b, c}},
		{netOf(4, 2, 3, 0, 3, 0, 1), []impl.Rec{e, c, b, a}, []impl.Rec{b, c, a, e}},
		{netOf(5, 0, 4, 1, 3), []impl.Rec{e, d, c, b, a}, []impl.Rec{a, b, c, d, e}},
	}
	for _, x := range list {
		wantRankBy(t, x.n, x.list, x.want)
		if got := modelRankBy(x.n, x.list); !slices.Equal(got, x.want) {
			t.Errorf("the model makes %v of %v by %v", got, x.list, x.n)
		}
	}
}

// TestRankByNets passes all nets of the three functions, each whole and without one wire.
func TestRankByNets(t *testing.T) {
	r := rand.New(rand.NewPCG(131, 132))
	for _, n := range madeNets() {
		for range 3 {
			list := anyRecs(r, n.N)
			wantRankBy(t, n, list, modelRank(list))
			if len(n.Wires) > 0 {
				rest := without(n, r.IntN(len(n.Wires)))
				wantRankBy(t, rest, list, modelRankBy(rest, list))
			}
		}
		good := someRecs(fewRecs(), n.N)
		wantRankBy(t, n, good, modelRank(good))
		wantRankBy(t, impl.Net{N: n.N}, good, good)
	}
}

// TestRankByAnyNet passes nets that mostly don't sort.
func TestRankByAnyNet(t *testing.T) {
	r := rand.New(rand.NewPCG(133, 134))
	for range 1000 {
		n := anyNet(r, 2+r.IntN(63), r.IntN(80))
		list := anyRecs(r, n.N)
		wantRankBy(t, n, list, modelRankBy(n, list))
	}
	for _, places := range []int{2, 3, 64} {
		n := anyNet(r, places, impl.MaxWires)
		list := anyRecs(r, n.N)
		wantRankBy(t, n, list, modelRankBy(n, list))
	}
}

// TestRankByShortNets passes every net of up to four wires for three places, with all orders of the records.
func TestRankByShortNets(t *testing.T) {
	nets := []impl.Net{{N: 3}}
	for range 5 {
		var longer []impl.Net
		for _, n := range nets {
			for _, list := range [][]impl.Rec{{live(2, 2, "b"), live(2, 2, "a"), live(2, 3, "b")}, {{}, live(7, 0, "z"), live(6, 0, "z")}, {{}, live(1, 1, "a"), {}}} {
				tryOrders(list, 0, func(list []impl.Rec) {
					if got, want := impl.RankBy(n, list), modelRankBy(n, list); !slices.Equal(got, want) {
						t.Fatalf("RankBy(%v, %v) is %v, not %v", n, list, got, want)
					}
				})
			}
			for _, w := range allWires(3) {
				next := copyNet(n)
				next.Wires = append(next.Wires, w)
				longer = append(longer, next)
			}
		}
		nets = longer
	}
}

func TestRankByInvalidNets(t *testing.T) {
	for _, n := range badNets() {
		for size := range 70 {
			list := someRecs(fewRecs(), size)
			if got := impl.RankBy(n, list); len(got) != 0 {
				t.Errorf("RankBy(%v) of %d records is %v", n, size, got)
			}
		}
		size := max(0, min(n.N, 70))
		wantRankBy(t, n, someRecs(fewRecs(), size), nil)
		wantRankBy(t, n, empties(size), nil)
		wantRankBy(t, n, someRecs(badRecs(), size), nil)
	}
}

func TestRankByOtherLengths(t *testing.T) {
	for _, n := range append(madeNets(), netOf(1), netOf(3), netOf(64), evenNet(12, 100), evenNet(64, impl.MaxWires)) {
		for _, size := range []int{0, 1, n.N - 2, n.N - 1, n.N + 1, n.N + 2, 2 * n.N, 63, 64, 65, 100} {
			if size < 0 || size == n.N {
				continue
			}
			wantRankBy(t, n, someRecs(goodRecs(), size), nil)
			wantRankBy(t, n, empties(size), nil)
		}
		list := someRecs(goodRecs(), n.N)
		wantRankBy(t, n, list, modelRankBy(n, list))
	}
}

// TestRankingOfInvalid puts an invalid record at the first, a middle and the last place.
func TestRankingOfInvalid(t *testing.T) {
	bad := []impl.Rec{{Live: true}, {Weight: 1}, {Dist: 1}, {Word: "a"}, live(-1, 0, "a"), live(8, 0, "a"), live(0, -1, "a"), live(0, 65536, "a"), live(0, 0, "A"), live(0, 0, wordOfLen(33))}
	for _, n := range []int{1, 2, 3, 4, 7, 8, 33, 63, 64} {
		for _, fill := range [][]impl.Rec{fewRecs(), {{}}, {live(1, 1, "ab")}} {
			for _, at := range []int{0, n / 2, n - 1} {
				for _, r := range bad {
					list := someRecs(fill, n)
					list[at] = r
					failRanking(t, "invalid record", list)
				}
			}
		}
	}
	for _, r := range badRecs() {
		failRanking(t, "invalid record", []impl.Rec{r})
		failRanking(t, "invalid record", []impl.Rec{live(0, 0, "a"), {}, r})
	}
}

func TestRankingOfManyRecords(t *testing.T) {
	for _, n := range []int{65, 66, 67, 100, 127, 128, 129, 1000} {
		for _, good := range [][]impl.Rec{fewRecs(), {{}}, {live(1, 1, "ab")}, goodRecs()} {
			failRanking(t, "too many records", someRecs(good, n))
		}
	}
	full := someRecs(goodRecs(), impl.MaxNet)
	wantAll(t, full)
	failRanking(t, "too many records", append(full, impl.Rec{}))
}

func TestRankingOfNoRecords(t *testing.T) {
	for _, list := range [][]impl.Rec{nil, {}, make([]impl.Rec, 0, 9), fewRecs()[:0], badRecs()[:0]} {
		if got := impl.Rank(list); len(got) != 0 {
			t.Errorf("Rank of no records is %v", got)
		}
		if got := impl.Compact(list); len(got) != 0 {
			t.Errorf("Compact of no records is %v", got)
		}
		for k := -1; k <= 9; k++ {
			var want []impl.Rec
			if k >= 0 && k <= 8 {
				want = empties(k)
			}
			if got := impl.TopK(list, k); !slices.Equal(got, want) {
				t.Errorf("TopK of no records and %d is %v", k, got)
			}
		}
		for _, n := range append(madeNets(), badNets()...) {
			if got := impl.RankBy(n, list); len(got) != 0 {
				t.Errorf("RankBy(%v) of no records is %v", n, got)
			}
		}
	}
}

func TestRankLengths(t *testing.T) {
	r := rand.New(rand.NewPCG(135, 136))
	for n := range impl.MaxNet + 1 {
		wantRank(t, someRecs(goodRecs(), n))
		wantRank(t, someRecs(fewRecs(), n))
		ranked := modelRank(someRecs(goodRecs(), n))
		wantRank(t, ranked)
		slices.Reverse(ranked)
		wantRank(t, ranked)
		r.Shuffle(n, func(i int, j int) { ranked[i], ranked[j] = ranked[j], ranked[i] })
		wantRank(t, ranked)
		for range 5 {
			wantRank(t, anyRecs(r, n))
		}
	}
}

// TestRankingOfEqual ranks one record many times, and two records in all proportions.
func TestRankingOfEqual(t *testing.T) {
	for n := range impl.MaxNet + 1 {
		for _, r := range []impl.Rec{{}, live(0, 0, "a"), live(7, 65535, wordOfLen(32)), live(2, 258, "ab")} {
			same := slices.Repeat([]impl.Rec{r}, n)
			wantList(t, "Rank", same, same, impl.Rank)
			wantList(t, "Compact", same, same, impl.Compact)
		}
	}
	pairs := [][2]impl.Rec{{{}, live(7, 0, "z")}, {live(1, 1, "b"), live(1, 1, "a")}, {live(1, 1, "a"), live(1, 2, "b")}, {live(1, 9, "a"), live(0, 0, "b")}}
	for _, n := range []int{1, 2, 5, 8, 13, 64} {
		for many := range n + 1 {
			for _, pair := range pairs {
				list := append(slices.Repeat(pair[:1], many), slices.Repeat(pair[1:], n-many)...)
				want := append(slices.Repeat(pair[1:], n-many), slices.Repeat(pair[:1], many)...)
				wantList(t, "Rank", list, want, impl.Rank)
				wantList(t, "Rank", want, want, impl.Rank)
			}
		}
	}
}

// TestRankOfTies has records that differ in one field only, and in all orders.
func TestRankOfTies(t *testing.T) {
	z := strings.Repeat("z", 32)
	ranked := [][]impl.Rec{
		{live(0, 5, "b"), live(1, 5, "b"), live(2, 5, "b"), live(6, 5, "b"), live(7, 5, "b"), {}},
		{live(3, 65535, "b"), live(3, 256, "b"), live(3, 255, "b"), live(3, 1, "b"), live(3, 0, "b"), {}},
		{live(3, 5, "a"), live(3, 5, "aa"), live(3, 5, "ab"), live(3, 5, "b"), live(3, 5, z), {}},
		{live(3, 5, wordOfLen(31)), live(3, 5, wordOfLen(32)), live(3, 5, wordOfLen(31)+"z"), live(3, 5, z[:31]), live(3, 5, z)},
		{live(0, 0, "z"), live(1, 65535, "a"), live(1, 65534, "a"), live(1, 65534, "b"), live(2, 65535, "a")},
		{live(1, 9, "z"), live(1, 8, "a"), live(1, 8, "b"), live(1, 7, "a"), {}, {}},
		{live(1, 9, "b"), live(1, 9, "b"), live(1, 9, "c"), live(1, 8, "a"), live(1, 8, "a")},
		{live(0, 0, z), live(7, 65535, "a"), {}, {}, {}},
	}
	for _, want := range ranked {
		tryOrders(slices.Clone(want), 0, func(list []impl.Rec) {
			if got := impl.Rank(list); !slices.Equal(got, want) {
				t.Fatalf("Rank of %v is %v, not %v", list, got, want)
			}
			for k := range 9 {
				if got := impl.TopK(list, k); !slices.Equal(got, modelTop(want, k)) {
					t.Fatalf("TopK of %v and %d is %v", list, k, got)
				}
			}
		})
		wantAll(t, want)
	}
	wantAll(t, tiedRecs())
}

// TestRankingOfEmptyPlaces puts empty records at the first, middle and last places, one or several.
func TestRankingOfEmptyPlaces(t *testing.T) {
	for _, n := range []int{1, 2, 3, 4, 5, 8, 9, 17, 63, 64} {
		for _, many := range []int{1, 2, 3, n / 2, n - 1, n} {
			for _, from := range []int{0, (n - many) / 2, n - many} {
				if from < 0 || many > n {
					continue
				}
				list := someRecs(goodRecs()[1:], n)
				copy(list[from:from+many], empties(many))
				wantAll(t, list)
				slices.Reverse(list)
				wantAll(t, list)
			}
		}
		list := someRecs(goodRecs()[1:], n)
		list[0], list[n/2], list[n-1] = impl.Rec{}, impl.Rec{}, impl.Rec{}
		wantAll(t, list)
	}
	for n := range impl.MaxNet + 1 {
		wantAll(t, empties(n))
	}
}

// TestCompactOfAllPlaces has empty records at every choice of the places of a short list, of equal or different Live records.
func TestCompactOfAllPlaces(t *testing.T) {
	worst := modelRank(goodRecs()[1:])
	slices.Reverse(worst)
	for n := range 10 {
		for _, empty := range binary(n) {
			for _, good := range [][]impl.Rec{worst, {live(1, 1, "a")}, tiedRecs()[1:]} {
				list := someRecs(good, n)
				for i := range list {
					if empty[i] == 1 {
						list[i] = impl.Rec{}
					}
				}
				if got, want := impl.Compact(list), modelCompact(list); !slices.Equal(got, want) {
					t.Fatalf("Compact of %v is %v, not %v", list, got, want)
				}
			}
		}
	}
}

func TestCompactLengths(t *testing.T) {
	r := rand.New(rand.NewPCG(137, 138))
	for n := range impl.MaxNet + 1 {
		full := someRecs(goodRecs()[1:], n)
		wantCompact(t, full)
		slices.Reverse(full)
		wantCompact(t, full)
		for at := range full {
			if n > 16 && n < 63 && at%7 != 0 {
				continue
			}
			list := slices.Clone(full)
			list[at] = impl.Rec{}
			wantCompact(t, list)
			list = empties(n)
			list[at] = live(7, 0, "z")
			wantCompact(t, list)
		}
		for range 10 {
			wantCompact(t, anyRecs(r, n))
		}
		for i := range full {
			if r.IntN(2) == 0 {
				full[i] = impl.Rec{}
			}
		}
		wantCompact(t, full)
	}
}

func TestTopKOfLengths(t *testing.T) {
	r := rand.New(rand.NewPCG(139, 140))
	for n := range impl.MaxNet + 1 {
		if n > 20 && n%11 != 9 {
			continue
		}
		wantTop(t, someRecs(goodRecs()[1:], n))
		wantTop(t, slices.Repeat([]impl.Rec{live(1, 1, "a")}, n))
		wantTop(t, anyRecs(r, n))
		wantTop(t, anyRecs(r, n))
		ranked := modelRank(anyRecs(r, n))
		wantTop(t, ranked)
		slices.Reverse(ranked)
		wantTop(t, ranked)
	}
}

// TestTopKOfLiveAlone asks for the same top of a list, of its Compact, and of lists with more or fewer empty records
// and with the Live records in another order.
func TestTopKOfLiveAlone(t *testing.T) {
	r := rand.New(rand.NewPCG(141, 142))
	for range 300 {
		list := anyRecs(r, r.IntN(impl.MaxNet+1))
		some := liveOf(list)
		others := [][]impl.Rec{impl.Compact(list), some, impl.Rank(list), slices.Clone(some), slices.Clone(some), slices.Clone(some)}
		last := len(others) - 1
		for len(others[last]) < impl.MaxNet {
			others[last] = slices.Insert(others[last], r.IntN(len(others[last])+1), impl.Rec{})
		}
		others[last-1] = append(empties(impl.MaxNet-len(some)), some...)
		r.Shuffle(len(some), func(i int, j int) {
			others[last-2][i], others[last-2][j] = others[last-2][j], others[last-2][i]
		})
		for k := range 9 {
			want := modelTop(some, k)
			if got := impl.TopK(list, k); !slices.Equal(got, want) {
				t.Fatalf("TopK of %v and %d is %v, not %v", list, k, got, want)
			}
			for _, other := range others {
				if got := impl.TopK(other, k); !slices.Equal(got, want) {
					t.Fatalf("TopK of %v and %d is %v, and of %v it is %v", list, k, want, other, got)
				}
			}
		}
	}
}

// TestRankingSharesNothing asks all functions about one list, and overwrites the results and the list one by one.
func TestRankingSharesNothing(t *testing.T) {
	r := rand.New(rand.NewPCG(143, 144))
	for range 200 {
		list := anyRecs(r, 1+r.IntN(impl.MaxNet))
		n := impl.Bubble(len(list))
		results := [][]impl.Rec{impl.RankBy(n, list), impl.Rank(list), impl.Compact(list), impl.TopK(list, 8), impl.TopK(list, 3), list}
		var copies [][]impl.Rec
		for _, got := range results {
			copies = append(copies, slices.Clone(got[:cap(got)]))
		}
		for i, got := range results {
			spoilRecs(got)
			for j := i + 1; j < len(results); j++ {
				if other := results[j]; !slices.Equal(other[:cap(other)], copies[j]) {
					t.Fatalf("the results %d and %d for %v share memory", i, j, copies[len(copies)-1])
				}
			}
		}
		if !sameNet(n, impl.Bubble(n.N)) {
			t.Fatalf("the net is %v", n)
		}
	}
}

// TestRankingKeepsNothing asks for the same results in another order, after other calls.
func TestRankingKeepsNothing(t *testing.T) {
	r := rand.New(rand.NewPCG(145, 146))
	type answer struct {
		list    []impl.Rec
		n       impl.Net
		by      []impl.Rec
		ranked  []impl.Rec
		compact []impl.Rec
		k       int
		top     []impl.Rec
	}
	var all []answer
	for range 300 {
		list := anyRecs(r, 2+r.IntN(impl.MaxNet-1))
		n, k := anyNet(r, len(list), r.IntN(60)), r.IntN(9)
		all = append(all, answer{list, n, impl.RankBy(n, list), impl.Rank(list), impl.Compact(list), k, impl.TopK(list, k)})
	}
	r.Shuffle(len(all), func(i int, j int) { all[i], all[j] = all[j], all[i] })
	for i, x := range all {
		impl.Rank(nil)
		impl.TopK(badRecs()[:i%60], i%9)
		impl.RankSteps(i % 70)
		if !slices.Equal(impl.RankBy(x.n, x.list), x.by) || !slices.Equal(impl.Rank(x.list), x.ranked) {
			t.Fatalf("%v: another Rank or RankBy than before", x.list)
		}
		if !slices.Equal(impl.Compact(x.list), x.compact) || !slices.Equal(impl.TopK(x.list, x.k), x.top) {
			t.Fatalf("%v: another Compact or TopK than before", x.list)
		}
	}
}
