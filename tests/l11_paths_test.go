package tests

import (
	"math"
	"math/rand/v2"
	"slices"
	"testing"

	"loop.example/g00663/impl"
)

// modelPaths grows a tree level by level: the paths of all its leaves from left to right, or none if there is no such tree.
func modelPaths(log int) [][]int {
	if log < 0 || log > 6 {
		return nil
	}
	paths := [][]int{{1}}
	for range log {
		var longer [][]int
		for _, path := range paths {
			end := path[len(path)-1]
			longer = append(longer, append(slices.Clone(path), 2*end), append(slices.Clone(path), 2*end+1))
		}
		paths = longer
	}
	return paths
}

// modelPath is the path of a leaf, or nil if there is no such leaf.
func modelPath(paths [][]int, leaf int) []int {
	if leaf < 0 || leaf >= len(paths) {
		return nil
	}
	return paths[leaf]
}

// modelNodes is the number of different nodes of all paths, or -1 if there are no paths.
func modelNodes(paths [][]int) int {
	if len(paths) == 0 {
		return -1
	}
	nodes := map[int]int{}
	for _, path := range paths {
		for _, node := range path {
			nodes[node]++
		}
	}
	return len(nodes)
}

// modelLevel is the place of a node on a path that contains it, or -1 if there is none.
func modelLevel(paths [][]int, node int) int {
	for _, path := range paths {
		if level := slices.Index(path, node); level >= 0 {
			return level
		}
	}
	return -1
}

// modelLeaves is the first and the last leaf whose paths contain a node, or -1 and -1 if there is none.
func modelLeaves(paths [][]int, node int) (int, int) {
	first, last := -1, -1
	for leaf, path := range paths {
		if slices.Contains(path, node) {
			last = leaf
			if first < 0 {
				first = leaf
			}
		}
	}
	return first, last
}

// modelMeet is the level of the last common node of two paths, or -1 if one of them is empty.
func modelMeet(a []int, b []int) int {
	meet := -1
	for level := range min(len(a), len(b)) {
		if a[level] == b[level] {
			meet = level
		}
	}
	return meet
}

// farInts are numbers that are far from all trees, leaves and nodes, or that have their lowest bits in common with one.
func farInts() []int {
	return []int{math.MinInt, math.MinInt + 1, math.MinInt + 2, math.MinInt + 64, math.MinInt32, -1 << 32, -1<<32 + 2, -256, -255, -129, -128, -127, -64, -63,
		255, 256, 257, 1 << 16, 1<<16 + 1, math.MaxInt32, 1 << 32, 1<<32 + 1, 1<<32 + 2, 1 << 62, 1<<62 + 1, math.MaxInt - 63, math.MaxInt - 1, math.MaxInt}
}

// allLogs are those of all trees, with those around them, those of the widths of integers and the far ones.
func allLogs() []int {
	return append([]int{-2, -1, 0, 1, 2, 3, 4, 5, 6, 7, 8, 9, 10, 31, 32, 33, 61, 62, 63, 64, 65, 66, 127, 128}, farInts()...)
}

// allPlaces are all leaves and nodes of all trees, with those around them and the far ones.
func allPlaces() []int {
	var places []int
	for place := -66; place <= 194; place++ {
		places = append(places, place)
	}
	return append(places, farInts()...)
}

// somePlaces are those of which many pairs can be asked for: the ends of all trees, with those around them and the far ones.
func somePlaces() []int {
	return append([]int{-2, -1, 0, 1, 2, 3, 4, 5, 7, 8, 15, 16, 31, 32, 33, 63, 64, 65, 126, 127, 128}, farInts()...)
}

// wantPath asks for the path of a leaf twice, and overwrites the first result, with what is behind its length.
func wantPath(t *testing.T, log int, leaf int, want []int) {
	t.Helper()
	first, second := impl.PathNodes(log, leaf), impl.PathNodes(log, leaf)
	if !slices.Equal(first, want) {
		t.Fatalf("PathNodes(%d, %d) is %v, not %v", log, leaf, first, want)
	}
	spoil(first)
	if !slices.Equal(second, want) {
		t.Fatalf("PathNodes(%d, %d): two results share memory", log, leaf)
	}
	if third := impl.PathNodes(log, leaf); !slices.Equal(third, want) {
		t.Fatalf("PathNodes(%d, %d) is %v after a result was overwritten", log, leaf, third)
	}
}

func wantOnPath(t *testing.T, log int, node int, leaf int, want bool) {
	t.Helper()
	if got := impl.OnPath(log, node, leaf); got != want {
		t.Fatalf("OnPath(%d, %d, %d) is %v", log, node, leaf, got)
	}
}

func wantLevel(t *testing.T, node int, want int) {
	t.Helper()
	if got := impl.NodeLevel(node); got != want {
		t.Fatalf("NodeLevel(%d) is %d, not %d", node, got, want)
	}
}

func wantLeaves(t *testing.T, log int, node int, first int, last int) {
	t.Helper()
	if a, b := impl.NodeLeaves(log, node); a != first || b != last {
		t.Fatalf("NodeLeaves(%d, %d) is %d, %d, not %d, %d", log, node, a, b, first, last)
	}
}

func wantMeet(t *testing.T, log int, a int, b int, want int) {
	t.Helper()
	if got := impl.Meet(log, a, b); got != want {
		t.Fatalf("Meet(%d, %d, %d) is %d, not %d", log, a, b, got, want)
	}
	if got := impl.Meet(log, b, a); got != want {
		t.Fatalf("Meet(%d, %d, %d) is %d, and the other way round it is %d", log, b, a, got, want)
	}
}

func TestPathsExamples(t *testing.T) {
	if impl.TreeNodes(2) != 7 {
		t.Error("TreeNodes")
	}
	if !slices.Equal(impl.PathNodes(2, 1), []int{1, 2, 5}) {
		t.Error("PathNodes")
	}
	if impl.OnPath(2, 3, 0) {
		t.Error("OnPath")
	}
	if impl.NodeLevel(5) != 2 {
		t.Error("NodeLevel")
	}
	if first, last := impl.NodeLeaves(2, 3); first != 2 || last != 3 {
		t.Error("NodeLeaves")
	}
	if impl.Meet(2, 0, 1) != 1 {
		t.Error("Meet")
	}
}

// TestPathsWritten holds the plain model itself against paths that are written out.
func TestPathsWritten(t *testing.T) {
	written := [][][]int{
		{{1}},
		{{1, 2}, {1, 3}},
		{{1, 2, 4}, {1, 2, 5}, {1, 3, 6}, {1, 3, 7}},
		{{1, 2, 4, 8}, {1, 2, 4, 9}, {1, 2, 5, 10}, {1, 2, 5, 11}, {1, 3, 6, 12}, {1, 3, 6, 13}, {1, 3, 7, 14}, {1, 3, 7, 15}},
	}
	for log, paths := range written {
		model := modelPaths(log)
		if len(model) != len(paths) {
			t.Fatalf("log %d: the model has %d paths", log, len(model))
		}
		for leaf, path := range paths {
			if !slices.Equal(model[leaf], path) {
				t.Errorf("log %d: the path of the leaf %d in the model is %v", log, leaf, model[leaf])
			}
			wantPath(t, log, leaf, path)
		}
	}
	wantPath(t, 6, 0, []int{1, 2, 4, 8, 16, 32, 64})
	wantPath(t, 6, 31, []int{1, 2, 5, 11, 23, 47, 95})
	wantPath(t, 6, 32, []int{1, 3, 6, 12, 24, 48, 96})
	wantPath(t, 6, 63, []int{1, 3, 7, 15, 31, 63, 127})
}

func TestPathsOfOneNode(t *testing.T) {
	if got := impl.TreeNodes(0); got != 1 {
		t.Errorf("TreeNodes(0) is %d", got)
	}
	wantPath(t, 0, 0, []int{1})
	wantOnPath(t, 0, 1, 0, true)
	wantLevel(t, 1, 0)
	wantLeaves(t, 0, 1, 0, 0)
	wantMeet(t, 0, 0, 0, 0)
	for _, other := range allPlaces() {
		if other != 0 {
			wantPath(t, 0, other, nil)
			wantOnPath(t, 0, 1, other, false)
			wantMeet(t, 0, 0, other, -1)
			wantMeet(t, 0, other, other, -1)
		}
		if other != 1 {
			wantOnPath(t, 0, other, 0, false)
			wantLeaves(t, 0, other, -1, -1)
		}
	}
}

func TestTreeNodes(t *testing.T) {
	written := []int{1, 3, 7, 15, 31, 63, 127}
	for _, log := range allLogs() {
		want := -1
		if log >= 0 && log < len(written) {
			want = written[log]
		}
		if got := impl.TreeNodes(log); got != want || want != modelNodes(modelPaths(log)) {
			t.Errorf("TreeNodes(%d) is %d, not %d", log, got, want)
		}
	}
	if got := impl.TreeNodes(impl.MaxLog); got != 127 {
		t.Errorf("TreeNodes(MaxLog) is %d", got)
	}
}

// TestPathNodesOfEveryLeaf asks for what the document says of a path, without the model.
func TestPathNodesOfEveryLeaf(t *testing.T) {
	for log := range impl.MaxLog + 1 {
		for leaf := range 1 << log {
			path := impl.PathNodes(log, leaf)
			if len(path) != log+1 || path[0] != 1 || path[log] != 1<<log+leaf {
				t.Fatalf("PathNodes(%d, %d) is %v", log, leaf, path)
			}
			for level, node := range path[1:] {
				if above := path[level]; node != 2*above && node != 2*above+1 {
					t.Fatalf("PathNodes(%d, %d) is %v, and %d is no child of %d", log, leaf, path, node, above)
				}
			}
		}
	}
}

func TestPathNodesOfAnyNumbers(t *testing.T) {
	for _, log := range allLogs() {
		paths := modelPaths(log)
		for _, leaf := range allPlaces() {
			wantPath(t, log, leaf, modelPath(paths, leaf))
		}
	}
}

// TestPathNodesIsNew holds the paths of all leaves of a tree at once and overwrites one after another.
func TestPathNodesIsNew(t *testing.T) {
	for log := range impl.MaxLog + 1 {
		model := modelPaths(log)
		var paths [][]int
		for leaf := range model {
			paths = append(paths, impl.PathNodes(log, leaf))
		}
		for leaf, want := range model {
			if !slices.Equal(paths[leaf], want) {
				t.Fatalf("log %d: the path of the leaf %d is %v, when those before it were overwritten", log, leaf, paths[leaf])
			}
			spoil(paths[leaf])
		}
		for leaf, want := range model {
			wantPath(t, log, leaf, want)
		}
	}
}

func TestOnPathOfEveryNode(t *testing.T) {
	for log := range impl.MaxLog + 1 {
		for leaf := range 1 << log {
			path := impl.PathNodes(log, leaf)
			on := 0
			for _, node := range allPlaces() {
				wantOnPath(t, log, node, leaf, slices.Contains(path, node))
				if impl.OnPath(log, node, leaf) {
					on++
				}
			}
			if on != log+1 {
				t.Fatalf("log %d, leaf %d: %d nodes are on the path", log, leaf, on)
			}
		}
	}
}

func TestOnPathOfAnyNumbers(t *testing.T) {
	for _, log := range allLogs() {
		paths := modelPaths(log)
		for _, leaf := range allPlaces() {
			path := modelPath(paths, leaf)
			for _, node := range somePlaces() {
				wantOnPath(t, log, node, leaf, slices.Contains(path, node))
			}
		}
	}
}

func TestOnPathOfNoNode(t *testing.T) {
	for log := range impl.MaxLog + 1 {
		for leaf := range 1 << log {
			for _, node := range []int{0, -1, 2 << log, 2<<log + 2*leaf, 2<<log + 2*leaf + 1, -1<<log - leaf} {
				wantOnPath(t, log, node, leaf, false)
			}
		}
		for _, leaf := range []int{-1, 1 << log, -1 << log, math.MinInt, math.MaxInt} {
			for node := range 2 << log {
				wantOnPath(t, log, node, leaf, false)
			}
		}
	}
	for _, log := range []int{-1, impl.MaxLog + 1, math.MinInt, math.MaxInt} {
		for node := range 260 {
			wantOnPath(t, log, node, 0, false)
		}
	}
}

func TestNodeLevel(t *testing.T) {
	biggest := modelPaths(6)
	for _, node := range allPlaces() {
		wantLevel(t, node, modelLevel(biggest, node))
	}
	for node := 1; node <= 127; node++ {
		want := -1
		for above := node; above > 0; above /= 2 {
			want++
		}
		wantLevel(t, node, want)
	}
	for _, node := range []int{-2, -1, 0, 128, 129, 130, math.MinInt, math.MaxInt} {
		wantLevel(t, node, -1)
	}
}

// TestNodeLevelInEveryTree: a node has one level, in whatever trees it is.
func TestNodeLevelInEveryTree(t *testing.T) {
	for log := range impl.MaxLog + 1 {
		for leaf := range 1 << log {
			for level, node := range impl.PathNodes(log, leaf) {
				wantLevel(t, node, level)
			}
		}
	}
}

// TestNodeLeavesOfEveryNode is the second part of the promise, without the model.
func TestNodeLeavesOfEveryNode(t *testing.T) {
	for log := range impl.MaxLog + 1 {
		for node := 1; node <= impl.TreeNodes(log); node++ {
			first, last := impl.NodeLeaves(log, node)
			if first < 0 || first > last || last >= 1<<log {
				t.Fatalf("NodeLeaves(%d, %d) is %d, %d", log, node, first, last)
			}
			for leaf := range 1 << log {
				below := slices.Contains(impl.PathNodes(log, leaf), node)
				if between := first <= leaf && leaf <= last; between != below {
					t.Fatalf("NodeLeaves(%d, %d) is %d, %d, and that the leaf %d is below is %v", log, node, first, last, leaf, below)
				}
				wantOnPath(t, log, node, leaf, first <= leaf && leaf <= last)
			}
		}
	}
}

func TestNodeLeavesOfAnyNumbers(t *testing.T) {
	for _, log := range allLogs() {
		paths := modelPaths(log)
		for _, node := range allPlaces() {
			first, last := modelLeaves(paths, node)
			wantLeaves(t, log, node, first, last)
		}
	}
}

func TestNodeLeavesWritten(t *testing.T) {
	for log := range impl.MaxLog + 1 {
		wantLeaves(t, log, 1, 0, 1<<log-1)
		for leaf := range 1 << log {
			wantLeaves(t, log, 1<<log+leaf, leaf, leaf)
		}
		for _, node := range []int{0, -1, 2 << log, math.MinInt, math.MaxInt} {
			wantLeaves(t, log, node, -1, -1)
		}
	}
	wantLeaves(t, 2, 2, 0, 1)
	wantLeaves(t, 3, 3, 4, 7)
	wantLeaves(t, 3, 6, 4, 5)
	wantLeaves(t, 6, 5, 16, 31)
	wantLeaves(t, -1, 1, -1, -1)
	wantLeaves(t, 7, 1, -1, -1)
}

// TestMeetOfAllLeaves is the first part of the promise, without the model.
func TestMeetOfAllLeaves(t *testing.T) {
	for log := range impl.MaxLog + 1 {
		for a := range 1 << log {
			for b := range 1 << log {
				meet := impl.Meet(log, a, b)
				if meet < 0 || meet > log || (meet == log) != (a == b) {
					t.Fatalf("Meet(%d, %d, %d) is %d", log, a, b, meet)
				}
				wantMeet(t, log, a, b, meet)
				wantInCommon(t, log, a, b, meet)
			}
		}
	}
}

func wantInCommon(t *testing.T, log int, a int, b int, meet int) {
	t.Helper()
	one, other := impl.PathNodes(log, a), impl.PathNodes(log, b)
	for _, node := range append(slices.Clone(one), other...) {
		common := slices.Contains(one, node) && slices.Contains(other, node)
		if above := impl.NodeLevel(node) <= meet; above != common {
			t.Fatalf("Meet(%d, %d, %d) is %d, and that both have the node %d is %v", log, a, b, meet, node, common)
		}
		if both := impl.OnPath(log, node, a) && impl.OnPath(log, node, b); both != common {
			t.Fatalf("OnPath of log %d and both leaves %d and %d is %v for the node %d", log, a, b, both, node)
		}
	}
}

func TestMeetOfAnyNumbers(t *testing.T) {
	for _, log := range allLogs() {
		paths := modelPaths(log)
		for _, a := range allPlaces() {
			for _, b := range somePlaces() {
				wantMeet(t, log, a, b, modelMeet(modelPath(paths, a), modelPath(paths, b)))
			}
		}
	}
}

func TestMeetWritten(t *testing.T) {
	for log := range impl.MaxLog + 1 {
		for leaf := range 1 << log {
			wantMeet(t, log, leaf, leaf, log)
			for _, other := range []int{-1, 1 << log, -1 << log, math.MinInt, math.MaxInt} {
				wantMeet(t, log, leaf, other, -1)
				wantMeet(t, log, other, other, -1)
			}
		}
		wantMeet(t, log, -1, 1<<log, -1)
		wantMeet(t, log, math.MinInt, math.MaxInt, -1)
	}
	for _, log := range []int{-1, 7, math.MinInt, math.MaxInt} {
		wantMeet(t, log, 0, 0, -1)
		wantMeet(t, log, 0, 1, -1)
	}
	wantMeet(t, 1, 0, 1, 0)
	wantMeet(t, 2, 1, 2, 0)
	wantMeet(t, 2, 2, 3, 1)
	wantMeet(t, 3, 1, 2, 1)
	wantMeet(t, 3, 4, 5, 2)
	wantMeet(t, 6, 0, 63, 0)
	wantMeet(t, 6, 31, 32, 0)
	wantMeet(t, 6, 62, 63, 5)
	wantMeet(t, 6, 48, 63, 2)
}

// TestPathsKeepNothing asks for the same results in another order, after other calls.
func TestPathsKeepNothing(t *testing.T) {
	r := rand.New(rand.NewPCG(151, 152))
	places := somePlaces()
	for range 20000 {
		log := r.IntN(10) - 1
		paths := modelPaths(log)
		a, b := r.IntN(70)-3, r.IntN(70)-3
		node := r.IntN(134) - 3
		if r.IntN(8) == 0 {
			a, node = places[r.IntN(len(places))], places[r.IntN(len(places))]
		}
		first, last := modelLeaves(paths, node)
		asks := []func(){
			func() { wantPath(t, log, a, modelPath(paths, a)) },
			func() { wantOnPath(t, log, node, a, slices.Contains(modelPath(paths, a), node)) },
			func() { wantLeaves(t, log, node, first, last) },
			func() { wantMeet(t, log, a, b, modelMeet(modelPath(paths, a), modelPath(paths, b))) },
			func() { wantMeet(t, log, a, a, modelMeet(modelPath(paths, a), modelPath(paths, a))) },
		}
		for _, i := range r.Perm(len(asks)) {
			asks[i]()
		}
	}
}
