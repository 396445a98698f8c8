package tests

import (
	"math"
	"math/rand/v2"
	"slices"
	"sort"
	"testing"

	"loop.example/g00663/impl"
)

// netOf returns a net of n places with the wires a0, b0, a1, b1, ..
func netOf(n int, ends ...int) impl.Net {
	net := impl.Net{N: n}
	for i := 0; i < len(ends); i += 2 {
		net.Wires = append(net.Wires, impl.Wire{A: ends[i], B: ends[i+1]})
	}
	return net
}

// evenNet returns a net of n places with so many wires, all of them valid.
func evenNet(n int, wires int) impl.Net {
	net := impl.Net{N: n}
	for i := range wires {
		a := i % (n - 1)
		net.Wires = append(net.Wires, impl.Wire{A: a, B: a + 1 + i%(n-1-a)})
	}
	return net
}

// anyNet returns a random net of n places, at least two, with so many wires.
func anyNet(r *rand.Rand, n int, wires int) impl.Net {
	net := impl.Net{N: n}
	for range wires {
		b := 1 + r.IntN(n-1)
		net.Wires = append(net.Wires, impl.Wire{A: r.IntN(b), B: b})
	}
	return net
}

func copyNet(n impl.Net) impl.Net {
	return impl.Net{N: n.N, Wires: slices.Clone(n.Wires)}
}

func sameNet(a impl.Net, b impl.Net) bool {
	return a.N == b.N && slices.Equal(a.Wires, b.Wires)
}

func zeroNet(n impl.Net) bool {
	return sameNet(n, impl.Net{})
}

// spoilNet overwrites all the memory of a net.
func spoilNet(n impl.Net) {
	for i := range n.Wires[:cap(n.Wires)] {
		n.Wires[:cap(n.Wires)][i] = impl.Wire{A: -7, B: -7}
	}
}

// without returns the net without one of its wires.
func without(n impl.Net, i int) impl.Net {
	rest := copyNet(n)
	rest.Wires = slices.Delete(rest.Wires, i, i+1)
	return rest
}

// replaced returns the net with another wire in one place.
func replaced(n impl.Net, i int, w impl.Wire) impl.Net {
	other := copyNet(n)
	other.Wires[i] = w
	return other
}

// allWires returns every valid wire of n places.
func allWires(n int) []impl.Wire {
	var wires []impl.Wire
	for a := range n {
		for b := a + 1; b < n; b++ {
			wires = append(wires, impl.Wire{A: a, B: b})
		}
	}
	return wires
}

// binary returns all lists of n numbers 0 and 1 in ascending order, by counting up from the last place.
func binary(n int) [][]int {
	list := make([]int, n)
	all := [][]int{slices.Clone(list)}
	for {
		i := n - 1
		for i >= 0 && list[i] == 1 {
			list[i] = 0
			i--
		}
		if i < 0 {
			return all
		}
		list[i] = 1
		all = append(all, slices.Clone(list))
	}
}

// exchanged is the document's rule for one wire after another.
func exchanged(n impl.Net, list []int) []int {
	work := slices.Clone(list)
	for _, w := range n.Wires {
		if work[w.A] > work[w.B] {
			keep := work[w.A]
			work[w.A] = work[w.B]
			work[w.B] = keep
		}
	}
	return work
}

// firstFault tries the lists of 0 and 1 one by one.
func firstFault(n impl.Net) []int {
	for _, list := range binary(n.N) {
		work := exchanged(n, list)
		for i := 1; i < len(work); i++ {
			if work[i] < work[i-1] {
				return list
			}
		}
	}
	return nil
}

// roundsOf is the document's rule for the round of each wire, found from all preceding wires.
func roundsOf(n impl.Net) []int {
	var rounds []int
	for i, w := range n.Wires {
		round := 1
		for j, v := range n.Wires[:i] {
			if v.A == w.A || v.A == w.B || v.B == w.A || v.B == w.B {
				round = max(round, rounds[j]+1)
			}
		}
		rounds = append(rounds, round)
	}
	return rounds
}

func modelDepth(n impl.Net) int {
	depth := 0
	for _, round := range roundsOf(n) {
		depth = max(depth, round)
	}
	return depth
}

// inStep returns the wires of one step, given in any order, in ascending order of A.
func inStep(wires []impl.Wire) []impl.Wire {
	sort.Slice(wires, func(i int, j int) bool { return wires[i].A < wires[j].A })
	return wires
}

func modelBitonic(n int) impl.Net {
	net := impl.Net{N: n}
	for s := 2; s <= n; s += s {
		var first []impl.Wire
		for begin := 0; begin+s <= n; begin += s {
			end := begin + s - 1
			for i := 0; 2*i < s; i++ {
				first = append(first, impl.Wire{A: begin + i, B: end - i})
			}
		}
		net.Wires = append(net.Wires, inStep(first)...)
		for h := s / 4; h > 0; h /= 2 {
			var next []impl.Wire
			for begin := 0; begin < n; begin += 2 * h {
				for i := range h {
					next = append(next, impl.Wire{A: begin + i, B: begin + i + h})
				}
			}
			net.Wires = append(net.Wires, inStep(next)...)
		}
	}
	return net
}

func modelOddEven(n int) impl.Net {
	net := impl.Net{N: n}
	for s := 2; s <= n; s += s {
		var first []impl.Wire
		for begin := 0; begin < n; begin += s {
			for i := range s / 2 {
				first = append(first, impl.Wire{A: begin + i, B: begin + i + s/2})
			}
		}
		net.Wires = append(net.Wires, inStep(first)...)
		for h := s / 4; h > 0; h /= 2 {
			var next []impl.Wire
			for begin := 0; begin < n; begin += s {
				for p := h; p < s-h; p++ {
					if p/h%2 == 1 {
						next = append(next, impl.Wire{A: begin + p, B: begin + p + h})
					}
				}
			}
			net.Wires = append(net.Wires, inStep(next)...)
		}
	}
	return net
}

func modelBubble(n int) impl.Net {
	net := impl.Net{N: n}
	for r := n - 1; r > 0; r-- {
		for a := 0; a < r; a++ {
			net.Wires = append(net.Wires, impl.Wire{A: a, B: a + 1})
		}
	}
	return net
}

// netMakers are the three functions that return nets, with their models and whether they are for powers of two only.
func netMakers() []struct {
	name   string
	made   func(int) impl.Net
	model  func(int) impl.Net
	powers bool
} {
	return []struct {
		name   string
		made   func(int) impl.Net
		model  func(int) impl.Net
		powers bool
	}{
		{"Bitonic", impl.Bitonic, modelBitonic, true},
		{"OddEven", impl.OddEven, modelOddEven, true},
		{"Bubble", impl.Bubble, modelBubble, false},
	}
}

// madeNets returns all nets of the three functions.
func madeNets() []impl.Net {
	var nets []impl.Net
	for _, m := range netMakers() {
		for n := 1; n <= impl.MaxNet; n++ {
			if net := m.made(n); net.N == n {
				nets = append(nets, net)
			}
		}
	}
	return nets
}

// badNets returns nets that are not valid, each for one reason.
func badNets() []impl.Net {
	nets := []impl.Net{{}, {N: -1}, {N: math.MinInt}, {N: 65}, {N: math.MaxInt}, netOf(0, 0, 1), netOf(65, 0, 1), netOf(-1, -2, -1), netOf(1, 0, 1), netOf(1, 0, 0), evenNet(64, impl.MaxWires+1), evenNet(2, impl.MaxWires+1), evenNet(65, 10)}
	good := impl.Bubble(4)
	for _, i := range []int{0, 3, len(good.Wires) - 1} {
		for _, w := range badWires(4) {
			nets = append(nets, replaced(good, i, w))
		}
	}
	return nets
}

// badWires returns wires that no net of n places has.
func badWires(n int) []impl.Wire {
	return []impl.Wire{{A: -1, B: 0}, {A: -1, B: n - 1}, {A: math.MinInt, B: 1}, {A: -2, B: -1}, {A: 0, B: 0}, {A: n - 1, B: n - 1}, {A: 1, B: 0}, {A: n - 1, B: 0}, {A: 0, B: n}, {A: n - 1, B: n}, {A: n, B: n + 1}, {A: n, B: n}, {A: n, B: 0}, {A: 0, B: math.MaxInt}, {A: 0, B: -1}, {A: math.MaxInt, B: math.MinInt}, {A: math.MinInt, B: math.MaxInt}, {A: 0, B: math.MinInt}}
}

func someInts() []int {
	return []int{0, 1, -1, 2, -2, 3, 7, -7, 63, 64, 65535, -65536, math.MaxInt32, math.MinInt32, math.MaxInt, math.MaxInt - 1, math.MinInt, math.MinInt + 1}
}

// anyList returns n random numbers, of a few or of many different ones.
func anyList(r *rand.Rand, n int) []int {
	list := make([]int, n)
	kind, numbers := r.IntN(4), someInts()
	for i := range list {
		switch kind {
		case 0:
			list[i] = r.IntN(2)
		case 1:
			list[i] = r.IntN(2*n) - n
		case 2:
			list[i] = numbers[r.IntN(len(numbers))]
		default:
			list[i] = int(r.Uint64())
		}
	}
	return list
}

// wantRunOf asks NetRun for a list, with the arguments unmodified and a result of its own.
func wantRunOf(t *testing.T, n impl.Net, list []int, want []int) {
	t.Helper()
	net, before := copyNet(n), slices.Clone(list)
	got := impl.NetRun(n, list)
	if !slices.Equal(got, want) {
		t.Fatalf("NetRun(%v, %v) is %v, not %v", n, list, got, want)
	}
	spoil(got)
	if !sameNet(n, net) || !slices.Equal(list, before) {
		t.Fatalf("NetRun(%v, %v) modifies an argument or shares its memory", net, before)
	}
}

// wantFault asks NetFault and NetSorts for a valid net of few places.
func wantFault(t *testing.T, n impl.Net, want []int) {
	t.Helper()
	net := copyNet(n)
	got, sorts := impl.NetFault(n), impl.NetSorts(n)
	if !slices.Equal(got, want) || sorts != (len(want) == 0) {
		t.Fatalf("%v: NetFault is %v and NetSorts is %v, not %v", n, got, sorts, want)
	}
	spoil(got)
	if !slices.Equal(impl.NetFault(n), want) || !sameNet(n, net) {
		t.Fatalf("%v: NetFault or NetSorts modifies the net or shares memory", net)
	}
}

func wantDepth(t *testing.T, n impl.Net, want int) {
	t.Helper()
	net := copyNet(n)
	if got := impl.NetDepth(n); got != want {
		t.Errorf("NetDepth(%v) is %d, not %d", n, got, want)
	}
	if !sameNet(n, net) {
		t.Errorf("NetDepth(%v) modifies the net", net)
	}
}

// wantJoin asks NetJoin for the wires of a and b, with the arguments unmodified and a result of its own.
func wantJoin(t *testing.T, a impl.Net, b impl.Net) {
	t.Helper()
	oldA, oldB := copyNet(a), copyNet(b)
	got, ok := impl.NetJoin(a, b)
	if !ok || got.N != a.N || len(got.Wires) != len(a.Wires)+len(b.Wires) {
		t.Fatalf("NetJoin(%v, %v) is %v, %v", a, b, got, ok)
	}
	if !slices.Equal(got.Wires[:len(a.Wires)], a.Wires) || !slices.Equal(got.Wires[len(a.Wires):], b.Wires) {
		t.Fatalf("NetJoin(%v, %v) has the wires %v", a, b, got.Wires)
	}
	spoilNet(got)
	if !sameNet(a, oldA) || !sameNet(b, oldB) {
		t.Fatalf("NetJoin(%v, %v) modifies an argument or shares its memory", oldA, oldB)
	}
}

func failJoin(t *testing.T, a impl.Net, b impl.Net) {
	t.Helper()
	if got, ok := impl.NetJoin(a, b); ok || !zeroNet(got) {
		t.Errorf("NetJoin of N %d with %d wires and N %d with %d wires is %v, %v", a.N, len(a.Wires), b.N, len(b.Wires), got, ok)
	}
}

func fineNet(t *testing.T, n impl.Net) {
	t.Helper()
	net := copyNet(n)
	if !impl.NetOk(n) {
		t.Errorf("NetOk is false for N %d with %d wires", n.N, len(n.Wires))
	}
	if !sameNet(n, net) {
		t.Error("NetOk modifies the net")
	}
}

// failNet asks every function for a net that is not valid.
func failNet(t *testing.T, n impl.Net) {
	t.Helper()
	if impl.NetOk(n) {
		t.Errorf("NetOk is true for N %d with the wires %v", n.N, n.Wires)
	}
	for _, size := range []int{0, 1, 2, 3, 4, 64, 65, n.N} {
		if size < 0 || size > 100 {
			continue
		}
		if got := impl.NetRun(n, make([]int, size)); len(got) != 0 {
			t.Errorf("NetRun(%v, %d zeros) is %v", n, size, got)
		}
	}
	if got := impl.NetRun(n, nil); len(got) != 0 {
		t.Errorf("NetRun(%v, nil) is %v", n, got)
	}
	wantDepth(t, n, -1)
	if got := impl.NetFault(n); len(got) != 0 || impl.NetSorts(n) {
		t.Errorf("%v: NetFault is %v, NetSorts %v", n, got, impl.NetSorts(n))
	}
	failJoin(t, n, n)
	good := impl.Net{N: n.N}
	failJoin(t, n, good)
	failJoin(t, good, n)
}

func TestNetExamples(t *testing.T) {
	wantRunOf(t, impl.Bitonic(4), []int{4, -1, 3, 3}, []int{-1, 3, 3, 4})
	wantDepth(t, impl.Bubble(3), 3)
	joined, ok := impl.NetJoin(impl.Bitonic(4), impl.OddEven(4))
	if !ok || joined.N != 4 || len(joined.Wires) != 11 {
		t.Errorf("Bitonic(4) and OddEven(4) joined: %v, %v", joined, ok)
	}
	part := impl.Bubble(3)
	part.Wires = part.Wires[:2]
	wantFault(t, part, []int{1, 1, 0})
	bitonic, oddEven := impl.Bitonic(4), impl.OddEven(4)
	if len(bitonic.Wires) != 6 || bitonic.Wires[2] != (impl.Wire{A: 0, B: 3}) {
		t.Errorf("Bitonic(4) is %v", bitonic)
	}
	if len(oddEven.Wires) != 5 || oddEven.Wires[4] != (impl.Wire{A: 1, B: 2}) {
		t.Errorf("OddEven(4) is %v", oddEven)
	}
}

func TestNetLimits(t *testing.T) {
	if impl.MaxNet != 64 || impl.MaxWires != 2100 || impl.MaxProof != 12 {
		t.Error("other limits than the document's")
	}
}

// TestNetWritten holds the smallest nets against their wires written out.
func TestNetWritten(t *testing.T) {
	list := []struct {
		name string
		got  impl.Net
		want impl.Net
	}{
		{"Bitonic(1)", impl.Bitonic(1), netOf(1)},
		{"Bitonic(2)", impl.Bitonic(2), netOf(2, 0, 1)},
		{"Bitonic(4)", impl.Bitonic(4), netOf(4, 0, 1, 2, 3, 0, 3, 1, 2, 0, 1, 2, 3)},
		{"Bitonic(8)", impl.Bitonic(8), netOf(8, 0, 1, 2, 3, 4, 5, 6, 7, 0, 3, 1, 2, 4, 7, 5, 6, 0, 1, 2, 3, 4, 5, 6, 7, 0, 7, 1, 6, 2, 5, 3, 4, 0, 2, 1, 3, 4, 6, 5, 7, 0, 1, 2, 3, 4, 5, 6, 7)},
		{"OddEven(1)", impl.OddEven(1), netOf(1)},
		{"OddEven(2)", impl.OddEven(2), netOf(2, 0, 1)},
		{"OddEven(4)", impl.OddEven(4), netOf(4, 0, 1, 2, 3, 0, 2, 1, 3, 1, 2)},
		{"OddEven(8)", impl.OddEven(8), netOf(8, 0, 1, 2, 3, 4, 5, 6, 7, 0, 2, 1, 3, 4, 6, 5, 7, 1, 2, 5, 6, 0, 4, 1, 5, 2, 6, 3, 7, 2, 4, 3, 5, 1, 2, 3, 4, 5, 6)},
		{"Bubble(1)", impl.Bubble(1), netOf(1)},
		{"Bubble(2)", impl.Bubble(2), netOf(2, 0, 1)},
		{"Bubble(3)", impl.Bubble(3), netOf(3, 0, 1, 1, 2, 0, 1)},
		{"Bubble(5)", impl.Bubble(5), netOf(5, 0, 1, 1, 2, 2, 3, 3, 4, 0, 1, 1, 2, 2, 3, 0, 1, 1, 2, 0, 1)},
	}
	for _, x := range list {
		if !sameNet(x.got, x.want) {
			t.Errorf("%s is %v, not %v", x.name, x.got, x.want)
		}
	}
}

func TestNetMade(t *testing.T) {
	for _, m := range netMakers() {
		for n := -130; n <= 1100; n++ {
			got := m.made(n)
			if n < 1 || n > 64 || m.powers && !slices.Contains([]int{1, 2, 4, 8, 16, 32, 64}, n) {
				if !zeroNet(got) {
					t.Errorf("%s(%d) is %v, not the zero value", m.name, n, got)
				}
				continue
			}
			fineNet(t, got)
			want := m.model(n)
			if got.N != n || len(got.Wires) != len(want.Wires) {
				t.Errorf("%s(%d) has N %d and %d wires, not %d", m.name, n, got.N, len(got.Wires), len(want.Wires))
				continue
			}
			for i, w := range got.Wires {
				if w != want.Wires[i] {
					t.Errorf("%s(%d) has the wire %v at index %d, not %v", m.name, n, w, i, want.Wires[i])
				}
			}
		}
		for _, n := range []int{math.MinInt, math.MinInt + 1, math.MinInt32, 1 << 16, 1 << 32, 1 << 62, math.MaxInt, math.MaxInt - 1} {
			if got := m.made(n); !zeroNet(got) {
				t.Errorf("%s(%d) is %v, not the zero value", m.name, n, got)
			}
		}
	}
}

// TestNetCounts holds the numbers of wires and rounds against Knuth's formulas.
func TestNetCounts(t *testing.T) {
	for k := range 7 {
		n := 1 << k
		bitonic, oddEven := impl.Bitonic(n), impl.OddEven(n)
		if len(bitonic.Wires) != n*k*(k+1)/4 {
			t.Errorf("Bitonic(%d) has %d wires", n, len(bitonic.Wires))
		}
		if 4*len(oddEven.Wires) != (k*k-k+4)*n-4 {
			t.Errorf("OddEven(%d) has %d wires", n, len(oddEven.Wires))
		}
		wantDepth(t, bitonic, k*(k+1)/2)
		wantDepth(t, oddEven, k*(k+1)/2)
	}
	for n := 1; n <= impl.MaxNet; n++ {
		if got := len(impl.Bubble(n).Wires); got != n*(n-1)/2 {
			t.Errorf("Bubble(%d) has %d wires", n, got)
		}
		wantDepth(t, impl.Bubble(n), max(0, 2*n-3))
	}
}

// TestNetMadeApart overwrites a net and asks for it again.
func TestNetMadeApart(t *testing.T) {
	for _, m := range netMakers() {
		for n := 1; n <= impl.MaxNet; n++ {
			first, second := m.made(n), m.made(n)
			want := copyNet(second)
			spoilNet(first)
			if !sameNet(second, want) || !sameNet(m.made(n), want) {
				t.Errorf("%s(%d) shares memory between two calls", m.name, n)
			}
			appended := append(second.Wires, impl.Wire{})
			spoilNet(impl.Net{Wires: appended})
			if !sameNet(m.made(n), want) {
				t.Errorf("%s(%d) keeps memory behind its wires", m.name, n)
			}
		}
	}
}

func TestNetMadeSortsBinary(t *testing.T) {
	for _, n := range madeNets() {
		if n.N > 16 {
			continue
		}
		for _, list := range binary(n.N) {
			if got := impl.NetRun(n, list); !slices.IsSorted(got) || len(got) != n.N {
				t.Fatalf("N %d with %d wires: %v becomes %v", n.N, len(n.Wires), list, got)
			}
		}
		if n.N <= impl.MaxProof {
			wantFault(t, n, nil)
		}
	}
}

func TestNetMadeSorts(t *testing.T) {
	r := rand.New(rand.NewPCG(101, 102))
	for _, n := range madeNets() {
		for ones := range n.N + 1 {
			list := make([]int, n.N)
			for i := range ones {
				list[i] = 1
			}
			for range 3 {
				want := slices.Clone(list)
				slices.Sort(want)
				wantRunOf(t, n, list, want)
				r.Shuffle(n.N, func(i int, j int) { list[i], list[j] = list[j], list[i] })
			}
		}
		for range 200 {
			list := anyList(r, n.N)
			want := slices.Clone(list)
			slices.Sort(want)
			wantRunOf(t, n, list, want)
		}
	}
}

// TestNetMadeSortsOrders tries all orders of a few different numbers.
func TestNetMadeSortsOrders(t *testing.T) {
	for _, n := range madeNets() {
		if n.N > 8 {
			continue
		}
		want := someInts()[:n.N]
		slices.Sort(want)
		tryOrders(slices.Clone(want), 0, func(list []int) {
			if got := impl.NetRun(n, list); !slices.Equal(got, want) {
				t.Fatalf("N %d with %d wires: %v becomes %v", n.N, len(n.Wires), list, got)
			}
		})
	}
}

// tryOrders calls try with every order of the elements from an index on.
func tryOrders[T any](list []T, from int, try func([]T)) {
	if from == len(list) {
		try(list)
		return
	}
	for i := from; i < len(list); i++ {
		list[from], list[i] = list[i], list[from]
		tryOrders(list, from+1, try)
		list[from], list[i] = list[i], list[from]
	}
}

func TestNetOk(t *testing.T) {
	for n := -70; n <= 140; n++ {
		for _, net := range []impl.Net{{N: n}, {N: n, Wires: []impl.Wire{}}} {
			if n >= 1 && n <= 64 {
				fineNet(t, net)
			} else {
				failNet(t, net)
			}
		}
	}
	for _, n := range badNets() {
		failNet(t, n)
	}
	for _, n := range []int{2, 3, 12, 13, 64} {
		fineNet(t, evenNet(n, impl.MaxWires))
		failNet(t, evenNet(n, impl.MaxWires+1))
		failNet(t, evenNet(n, 3*impl.MaxWires))
	}
	for n := 2; n <= impl.MaxNet; n++ {
		fineNet(t, impl.Net{N: n, Wires: allWires(n)})
		failNet(t, impl.Net{N: n - 1, Wires: allWires(n)})
	}
}

// TestNetOkOfWires puts one wire after another at the first, a middle and the last place.
func TestNetOkOfWires(t *testing.T) {
	for _, n := range []int{2, 3, 4, 63, 64} {
		for _, wires := range []int{1, 2, 3, 50, impl.MaxWires} {
			good := evenNet(n, wires)
			for _, i := range []int{0, wires / 2, wires - 1} {
				for _, w := range badWires(n) {
					if impl.NetOk(replaced(good, i, w)) {
						t.Errorf("N %d: NetOk is true with the wire %v at index %d of %d", n, w, i, wires)
					}
				}
				for _, w := range []impl.Wire{{A: 0, B: n - 1}, {A: n - 2, B: n - 1}, {A: 0, B: 1}} {
					fineNet(t, replaced(good, i, w))
				}
			}
		}
	}
	for a := -3; a <= 8; a++ {
		for b := -3; b <= 8; b++ {
			want := 0 <= a && a < b && b < 5
			if got := impl.NetOk(netOf(5, a, b)); got != want {
				t.Errorf("NetOk of N 5 with the wire %d, %d is %v", a, b, got)
			}
		}
	}
}

func TestNetRunWritten(t *testing.T) {
	list := []struct {
		net  impl.Net
		list []int
		want []int
	}{
		{netOf(1), []int{-5}, []int{-5}},
		{netOf(3), []int{3, 1, 2}, []int{3, 1, 2}},
		{netOf(2, 0, 1), []int{1, 2}, []int{1, 2}},
		{netOf(2, 0, 1), []int{2, 1}, []int{1, 2}},
		{netOf(2, 0, 1), []int{2, 2}, []int{2, 2}},
		{netOf(2, 0, 1, 0, 1, 0, 1), []int{2, 1}, []int{1, 2}},
		{netOf(2, 0, 1), []int{math.MaxInt, math.MinInt}, []int{math.MinInt, math.MaxInt}},
		{netOf(2, 0, 1), []int{math.MinInt, math.MaxInt}, []int{math.MinInt, math.MaxInt}},
		{netOf(2, 0, 1), []int{0, -1}, []int{-1, 0}},
		{netOf(2, 0, 1), []int{-1, -2}, []int{-2, -1}},
		{netOf(3, 0, 2), []int{3, 9, 1}, []int{1, 9, 3}},
		{netOf(3, 0, 1, 1, 2), []int{3, 2, 1}, []int{2, 1, 3}},
		{netOf(3, 1, 2, 0, 1), []int{3, 2, 1}, []int{1, 3, 2}},
		{netOf(3, 1, 2, 0, 1, 1, 2), []int{3, 2, 1}, []int{1, 2, 3}},
		{netOf(4, 2, 3, 0, 3, 0, 1), []int{4, 3, 2, 1}, []int{2, 3, 1, 4}},
	}
	for _, x := range list {
		wantRunOf(t, x.net, x.list, x.want)
	}
}

func TestNetRunOfLists(t *testing.T) {
	for _, n := range []impl.Net{netOf(1), netOf(3), impl.Bubble(2), impl.Bitonic(4), impl.OddEven(64), impl.Bubble(63), evenNet(12, 100)} {
		for size := range 70 {
			list := make([]int, size)
			for i := range list {
				list[i] = -i
			}
			if size == n.N {
				wantRunOf(t, n, list, exchanged(n, list))
			} else {
				wantRunOf(t, n, list, nil)
			}
		}
		wantRunOf(t, n, nil, nil)
		same := slices.Repeat([]int{math.MinInt}, n.N)
		wantRunOf(t, n, same, same)
	}
}

func TestNetRunOfAnyNet(t *testing.T) {
	r := rand.New(rand.NewPCG(103, 104))
	for range 3000 {
		n := anyNet(r, 2+r.IntN(63), r.IntN(120))
		list := anyList(r, n.N)
		wantRunOf(t, n, list, exchanged(n, list))
	}
	for _, places := range []int{2, 5, 64} {
		n := anyNet(r, places, impl.MaxWires)
		list := anyList(r, n.N)
		wantRunOf(t, n, list, exchanged(n, list))
	}
}

func TestNetDepth(t *testing.T) {
	list := []struct {
		net  impl.Net
		want int
	}{
		{netOf(1), 0},
		{netOf(64), 0},
		{netOf(2, 0, 1), 1},
		{netOf(2, 0, 1, 0, 1, 0, 1), 3},
		{netOf(4, 0, 1, 2, 3), 1},
		{netOf(4, 2, 3, 0, 1), 1},
		{netOf(4, 0, 3, 1, 2), 1},
		{netOf(6, 0, 1, 2, 3, 4, 5), 1},
		{netOf(3, 0, 1, 0, 2), 2},
		{netOf(3, 0, 2, 1, 2), 2},
		{netOf(3, 0, 1, 1, 2), 2},
		{netOf(3, 1, 2, 0, 1), 2},
		{netOf(5, 0, 1, 0, 1, 2, 3, 3, 4), 2},
		{netOf(5, 0, 1, 0, 1, 3, 4, 1, 3, 3, 4), 4},
		{netOf(5, 3, 4, 0, 1, 0, 1, 1, 3, 0, 2), 3},
		{evenNet(2, impl.MaxWires), impl.MaxWires},
		{impl.Bitonic(8), 6},
		{impl.OddEven(8), 6},
		{impl.Bubble(8), 13},
	}
	for _, x := range list {
		wantDepth(t, x.net, x.want)
	}
	for _, n := range madeNets() {
		wantDepth(t, n, modelDepth(n))
	}
	r := rand.New(rand.NewPCG(105, 106))
	for range 1000 {
		n := anyNet(r, 2+r.IntN(63), r.IntN(150))
		wantDepth(t, n, modelDepth(n))
	}
}

// TestNetDepthRounds runs the wires round by round, which gives the same list as their own order.
func TestNetDepthRounds(t *testing.T) {
	r := rand.New(rand.NewPCG(107, 108))
	for range 300 {
		n := anyNet(r, 2+r.IntN(20), r.IntN(60))
		byRound, rounds := impl.Net{N: n.N}, roundsOf(n)
		for round := 1; round <= impl.NetDepth(n); round++ {
			for i, w := range n.Wires {
				if rounds[i] == round {
					byRound.Wires = append(byRound.Wires, w)
				}
			}
		}
		if len(byRound.Wires) != len(n.Wires) {
			t.Fatalf("%v: wires behind round %d", n, impl.NetDepth(n))
		}
		list := anyList(r, n.N)
		if got, want := impl.NetRun(byRound, list), impl.NetRun(n, list); !slices.Equal(got, want) {
			t.Fatalf("%v by rounds: %v, not %v", n, got, want)
		}
	}
}

func TestNetJoin(t *testing.T) {
	wantJoin(t, netOf(1), netOf(1))
	wantJoin(t, netOf(4), netOf(4))
	wantJoin(t, netOf(4), impl.Bitonic(4))
	wantJoin(t, impl.Bitonic(4), netOf(4))
	wantJoin(t, impl.Bubble(64), netOf(64))
	wantJoin(t, impl.Bubble(63), impl.Net{N: 63, Wires: []impl.Wire{}})
	wantJoin(t, impl.Bitonic(64), impl.OddEven(64))
	wantJoin(t, impl.OddEven(64), impl.Bitonic(64))
	same := impl.OddEven(16)
	wantJoin(t, same, same)
	for _, part := range []int{0, 1, 1000, 1050, impl.MaxWires - 1, impl.MaxWires} {
		for _, n := range []int{2, 64} {
			wantJoin(t, evenNet(n, part), evenNet(n, impl.MaxWires-part))
			failJoin(t, evenNet(n, part), evenNet(n, impl.MaxWires-part+1))
			failJoin(t, evenNet(n, part+1), evenNet(n, impl.MaxWires-part))
		}
	}
	failJoin(t, evenNet(64, impl.MaxWires), evenNet(64, impl.MaxWires))
	failJoin(t, impl.Bubble(64), impl.Bubble(64))
}

func TestNetJoinOfOtherSizes(t *testing.T) {
	for a := -1; a <= impl.MaxNet+1; a++ {
		for b := -1; b <= impl.MaxNet+1; b++ {
			if a == b && a >= 1 && a <= impl.MaxNet {
				wantJoin(t, impl.Net{N: a}, impl.Net{N: b})
			} else {
				failJoin(t, impl.Net{N: a}, impl.Net{N: b})
			}
		}
	}
	failJoin(t, impl.Bitonic(4), impl.Bitonic(8))
	failJoin(t, impl.Bitonic(8), impl.Bitonic(4))
	failJoin(t, impl.Bubble(3), impl.Bubble(2))
	failJoin(t, netOf(3, 0, 1), netOf(4, 0, 1))
	failJoin(t, netOf(4, 0, 1), netOf(3, 0, 1))
}

func TestNetJoinOfInvalid(t *testing.T) {
	for _, bad := range badNets() {
		for _, good := range []impl.Net{impl.Bubble(4), netOf(4), netOf(1), netOf(2, 0, 1), netOf(64)} {
			failJoin(t, bad, good)
			failJoin(t, good, bad)
		}
		failJoin(t, bad, bad)
	}
}

// TestNetJoinRuns asks that a joined net does what both do in turn.
func TestNetJoinRuns(t *testing.T) {
	r := rand.New(rand.NewPCG(109, 110))
	for range 2000 {
		places := 2 + r.IntN(63)
		a, b := anyNet(r, places, r.IntN(60)), anyNet(r, places, r.IntN(60))
		wantJoin(t, a, b)
		joined, _ := impl.NetJoin(a, b)
		list := anyList(r, places)
		if got, want := impl.NetRun(joined, list), impl.NetRun(b, impl.NetRun(a, list)); !slices.Equal(got, want) {
			t.Fatalf("%v and %v joined: %v becomes %v, not %v", a, b, list, got, want)
		}
	}
}

// TestNetFaultOfAllNets tries every net of few places with few wires.
func TestNetFaultOfAllNets(t *testing.T) {
	limits := []int{1: 3, 2: 4, 3: 6, 4: 5, 5: 3}
	for places := 1; places < len(limits); places++ {
		nets := []impl.Net{{N: places}}
		for range limits[places] + 1 {
			var longer []impl.Net
			for _, n := range nets {
				wantFault(t, n, firstFault(n))
				for _, w := range allWires(places) {
					next := copyNet(n)
					next.Wires = append(next.Wires, w)
					longer = append(longer, next)
				}
			}
			nets = longer
		}
	}
}

// TestNetFaultWithoutOne leaves any one wire out of each of the three nets.
func TestNetFaultWithoutOne(t *testing.T) {
	for _, n := range madeNets() {
		if n.N > impl.MaxProof {
			continue
		}
		for i := range n.Wires {
			rest := without(n, i)
			want := firstFault(rest)
			wantFault(t, rest, want)
			if n.N <= 4 && len(want) == 0 {
				t.Errorf("N %d with %d wires sorts without the wire at index %d", n.N, len(n.Wires), i)
			}
		}
	}
}

func TestNetFaultOfAnyNet(t *testing.T) {
	r := rand.New(rand.NewPCG(111, 112))
	for range 400 {
		places := 2 + r.IntN(9)
		n := anyNet(r, places, r.IntN(6*places))
		wantFault(t, n, firstFault(n))
	}
	for range 20 {
		n := anyNet(r, impl.MaxProof, r.IntN(200))
		wantFault(t, n, firstFault(n))
	}
}

// TestNetFaultInOrder takes the wires of each of the three nets away from the end on, which makes other lists the first.
func TestNetFaultInOrder(t *testing.T) {
	for _, n := range madeNets() {
		if n.N > 8 {
			continue
		}
		for wires := range n.Wires {
			part := impl.Net{N: n.N, Wires: n.Wires[:wires]}
			wantFault(t, part, firstFault(part))
			late := impl.Net{N: n.N, Wires: n.Wires[wires:]}
			wantFault(t, late, firstFault(late))
		}
	}
}

func TestNetFaultLimits(t *testing.T) {
	wantFault(t, netOf(1), nil)
	for places := 2; places <= impl.MaxProof; places++ {
		want := make([]int, places)
		want[places-2] = 1
		wantFault(t, netOf(places), want)
	}
	wantFault(t, impl.Bubble(impl.MaxProof), nil)
	first := impl.Bubble(impl.MaxProof)
	first.Wires = first.Wires[1:]
	wantFault(t, first, firstFault(first))
	full, _ := impl.NetJoin(evenNet(impl.MaxProof, impl.MaxWires-66), impl.Bubble(impl.MaxProof))
	wantFault(t, full, nil)
	for _, n := range []impl.Net{impl.Bubble(13), netOf(13), netOf(13, 0, 1), impl.Bitonic(16), impl.OddEven(64), impl.Bubble(64), netOf(64)} {
		if got := impl.NetFault(n); len(got) != 0 || impl.NetSorts(n) {
			t.Errorf("N %d with %d wires: NetFault is %v, NetSorts %v", n.N, len(n.Wires), got, impl.NetSorts(n))
		}
	}
}

// TestNetFaultOfEachList has nets for each list that is not sorted, as their first fault.
func TestNetFaultOfEachList(t *testing.T) {
	r := rand.New(rand.NewPCG(113, 114))
	var seen [][]int
	for range 20000 {
		n := anyNet(r, 4, r.IntN(10))
		got, want := impl.NetFault(n), firstFault(n)
		if !slices.Equal(got, want) {
			t.Fatalf("NetFault(%v) is %v, not %v", n, got, want)
		}
		seen = append(seen, got)
	}
	for _, list := range binary(4) {
		found := slices.ContainsFunc(seen, func(fault []int) bool { return slices.Equal(fault, list) })
		if found == slices.IsSorted(list) {
			t.Errorf("%v is a first fault: %v", list, found)
		}
	}
}

// TestNetSortsAll holds NetSorts against all orders of different numbers: it sorts 0 and 1 if and only if it sorts all.
func TestNetSortsAll(t *testing.T) {
	r := rand.New(rand.NewPCG(115, 116))
	sorting := 0
	for range 600 {
		places := 2 + r.IntN(5)
		n := anyNet(r, places, r.IntN(8*places))
		want, all := someInts()[:places], true
		slices.Sort(want)
		tryOrders(slices.Clone(want), 0, func(list []int) {
			all = all && slices.Equal(impl.NetRun(n, list), want)
		})
		if got := impl.NetSorts(n); got != all {
			t.Errorf("NetSorts(%v) is %v, and of all orders %v", n, got, all)
		}
		if fault := impl.NetFault(n); all != (len(fault) == 0) || len(fault) != 0 && slices.IsSorted(impl.NetRun(n, fault)) {
			t.Errorf("NetFault(%v) is %v", n, fault)
		}
		if all {
			sorting++
		}
	}
	if sorting < 20 || sorting > 580 {
		t.Errorf("%d of 600 nets sort, so the test says little", sorting)
	}
}

// TestNetWithRoom passes nets and lists with memory behind their lengths, which is neither read nor modified.
func TestNetWithRoom(t *testing.T) {
	bubble := impl.Bubble(4)
	whole := append(copyNet(bubble).Wires, impl.Wire{A: 9, B: -9}, impl.Wire{A: 0, B: 3}, impl.Wire{A: 5, B: 5})
	before := slices.Clone(whole)
	n := impl.Net{N: 4, Wires: whole[:len(bubble.Wires)]}
	wholeList := []int{3, 2, 1, 0, -8, -9}
	list := wholeList[:4]
	fineNet(t, n)
	wantDepth(t, n, 5)
	if got := impl.NetRun(n, list); !slices.Equal(got, []int{0, 1, 2, 3}) {
		t.Errorf("NetRun is %v", got)
	}
	if !impl.NetSorts(n) || len(impl.NetFault(n)) != 0 {
		t.Error("the net doesn't sort")
	}
	for _, pair := range [][2]impl.Net{{n, bubble}, {bubble, n}, {n, n}, {n, netOf(4)}, {netOf(4), n}} {
		wantJoin(t, pair[0], pair[1])
	}
	if !slices.Equal(whole, before) || !slices.Equal(wholeList, []int{3, 2, 1, 0, -8, -9}) {
		t.Error("the memory behind an argument is modified")
	}
}

// TestNetKeepsNothing asks for the same results in another order, after other calls.
func TestNetKeepsNothing(t *testing.T) {
	r := rand.New(rand.NewPCG(117, 118))
	type answer struct {
		n     impl.Net
		list  []int
		run   []int
		depth int
		fault []int
	}
	var all []answer
	for range 200 {
		n := anyNet(r, 2+r.IntN(7), r.IntN(30))
		list := anyList(r, n.N)
		all = append(all, answer{n, list, impl.NetRun(n, list), impl.NetDepth(n), impl.NetFault(n)})
	}
	r.Shuffle(len(all), func(i int, j int) { all[i], all[j] = all[j], all[i] })
	for i, x := range all {
		impl.NetRun(impl.Net{}, x.list)
		impl.Bitonic(1 << (i % 7))
		impl.Bubble(i % 70)
		if !slices.Equal(impl.NetRun(x.n, x.list), x.run) || impl.NetDepth(x.n) != x.depth || !slices.Equal(impl.NetFault(x.n), x.fault) {
			t.Fatalf("%v: other results than before", x.n)
		}
	}
}
