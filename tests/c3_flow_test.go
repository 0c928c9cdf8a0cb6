package tests

import (
	"slices"
	"testing"

	"loop.example/wateronheights/impl"
)

// flowCase is a grid with where water runs on it, written out.
type flowCase struct {
	name    string
	h       [][]int
	flow    [][]int
	areas   [][]int
	basins  [][]int
	orders  [][]int
	springs [][]int
	longest int
}

func flowCases() []flowCase {
	return slices.Concat(flatFlowCases(), rowFlowCases(), slopeFlowCases(), lakeFlowCases())
}

func constantRows(r, c, n int) [][]int { return gridOf(r, c, func() int { return n }) }

// allRunOffCase is a grid from each cell of which water runs off at once.
func allRunOffCase(name string, h [][]int) flowCase {
	i := -1
	count := func() int { i++; return i }
	r, c := len(h), len(h[0])
	ones := constantRows(r, c, 1)
	return flowCase{name, h, constantRows(r, c, -1), ones, gridOf(r, c, count), ones, ones, 1}
}

func flatFlowCases() []flowCase {
	return []flowCase{
		allRunOffCase("one cell", [][]int{{7}}),
		allRunOffCase("one cell of height 0", [][]int{{0}}),
		allRunOffCase("one cell of the greatest height", [][]int{{12}}),
		allRunOffCase("one row of one height", [][]int{{4, 4, 4, 4, 4}}),
		allRunOffCase("one column of one height", [][]int{{4}, {4}, {4}}),
		allRunOffCase("two rows of one height", [][]int{{12, 12, 12}, {12, 12, 12}}),
		{"one height with one cell inside",
			[][]int{{5, 5, 5}, {5, 5, 5}, {5, 5, 5}},
			[][]int{{-1, -1, -1}, {-1, 1, -1}, {-1, -1, -1}},
			[][]int{{1, 2, 1}, {1, 1, 1}, {1, 1, 1}},
			[][]int{{0, 1, 2}, {3, 1, 5}, {6, 7, 8}},
			constantRows(3, 3, 1), constantRows(3, 3, 1), 2},
		{"one height with cells inside, of which one is two cells from the edge",
			constantRows(5, 5, 0),
			[][]int{{-1, -1, -1, -1, -1}, {-1, 1, 2, 3, -1}, {-1, 10, 7, 14, -1}, {-1, 15, 22, 19, -1}, {-1, -1, -1, -1, -1}},
			[][]int{{1, 2, 3, 2, 1}, {1, 1, 2, 1, 1}, {2, 1, 1, 1, 2}, {2, 1, 1, 1, 2}, {1, 1, 2, 1, 1}},
			[][]int{{0, 1, 2, 3, 4}, {5, 1, 2, 3, 9}, {10, 10, 2, 14, 14}, {15, 15, 22, 19, 19}, {20, 21, 22, 23, 24}},
			constantRows(5, 5, 1), constantRows(5, 5, 1), 3},
		{"a flat with a lower cell beside it",
			[][]int{{9, 9, 9, 9, 9}, {9, 5, 5, 5, 9}, {9, 5, 5, 5, 9}, {9, 5, 4, 5, 9}, {9, 9, 3, 9, 9}},
			[][]int{{-1, 6, 7, 8, -1}, {6, 7, 12, 7, 8}, {11, 12, 17, 12, 13}, {16, 17, 22, 17, 18}, {-1, 22, -1, 22, -1}},
			[][]int{{1, 1, 1, 1, 1}, {1, 3, 8, 3, 1}, {1, 2, 13, 2, 1}, {1, 2, 18, 2, 1}, {1, 1, 21, 1, 1}},
			[][]int{{0, 22, 22, 22, 4}, {22, 22, 22, 22, 22}, {22, 22, 22, 22, 22}, {22, 22, 22, 22, 22}, {20, 22, 22, 22, 24}},
			[][]int{{1, 1, 1, 1, 1}, {1, 2, 3, 2, 1}, {1, 1, 3, 1, 1}, {1, 1, 3, 1, 1}, {1, 1, 3, 1, 1}},
			[][]int{{1, 1, 1, 1, 1}, {1, 2, 5, 2, 1}, {1, 1, 7, 1, 1}, {1, 1, 9, 1, 1}, {1, 1, 11, 1, 1}}, 6},
	}
}

func rowFlowCases() []flowCase {
	return []flowCase{
		{"one row that rises",
			[][]int{{1, 2, 3, 4, 5}}, [][]int{{-1, 0, 1, 2, 3}}, [][]int{{5, 4, 3, 2, 1}},
			constantRows(1, 5, 0), constantRows(1, 5, 1), constantRows(1, 5, 1), 5},
		{"one row that all runs to its middle",
			[][]int{{5, 4, 3, 4, 5}}, [][]int{{1, 2, -1, 2, 3}}, [][]int{{1, 2, 5, 2, 1}},
			constantRows(1, 5, 2), [][]int{{1, 1, 2, 1, 1}}, [][]int{{1, 1, 2, 1, 1}}, 3},
		{"one row with flats, of which only a cell beside a lower one runs to it",
			[][]int{{3, 3, 2, 3, 3}}, [][]int{{-1, 2, -1, 2, -1}}, [][]int{{1, 1, 3, 1, 1}},
			[][]int{{0, 2, 2, 2, 4}}, [][]int{{1, 1, 2, 1, 1}}, [][]int{{1, 1, 2, 1, 1}}, 2},
		{"one column with a peak, as low above as below it",
			[][]int{{2}, {9}, {2}}, [][]int{{-1}, {0}, {-1}}, [][]int{{2}, {1}, {1}},
			[][]int{{0}, {0}, {2}}, constantRows(3, 1, 1), constantRows(3, 1, 1), 2},
		{"one column with a peak, lower below it",
			[][]int{{3}, {9}, {2}, {12}}, [][]int{{-1}, {2}, {-1}, {2}}, [][]int{{1}, {1}, {3}, {1}},
			[][]int{{0}, {2}, {2}, {2}}, [][]int{{1}, {1}, {2}, {1}}, [][]int{{1}, {1}, {2}, {1}}, 2},
	}
}

func slopeFlowCases() []flowCase {
	return []flowCase{
		{"all cells run to one at a corner",
			[][]int{{4, 3, 2}, {3, 2, 1}, {2, 1, 0}},
			[][]int{{1, 2, 5}, {4, 5, 8}, {7, 8, -1}},
			[][]int{{1, 2, 3}, {1, 2, 6}, {1, 2, 9}},
			constantRows(3, 3, 8),
			[][]int{{1, 1, 1}, {1, 1, 2}, {1, 1, 2}},
			[][]int{{1, 1, 1}, {1, 1, 2}, {1, 1, 3}}, 5},
		{"all cells run to one, over cells of the orders 2 and 3",
			[][]int{{7, 5, 7, 5, 7}, {8, 4, 3, 4, 8}, {9, 9, 2, 9, 9}},
			[][]int{{1, 6, 7, 8, 3}, {6, 7, 12, 7, 8}, {5, 12, -1, 12, 9}},
			[][]int{{1, 2, 1, 2, 1}, {2, 5, 12, 5, 2}, {1, 1, 15, 1, 1}},
			constantRows(3, 5, 12),
			[][]int{{1, 1, 1, 1, 1}, {1, 2, 3, 2, 1}, {1, 1, 3, 1, 1}},
			[][]int{{1, 1, 1, 1, 1}, {1, 2, 5, 2, 1}, {1, 1, 7, 1, 1}}, 5},
		{"three cells of one order run to one",
			[][]int{{9, 5, 9}, {4, 3, 4}, {9, 2, 9}},
			[][]int{{3, 4, 5}, {4, 7, 4}, {7, -1, 7}},
			[][]int{{1, 1, 1}, {2, 6, 2}, {1, 9, 1}},
			constantRows(3, 3, 7),
			[][]int{{1, 1, 1}, {1, 2, 1}, {1, 2, 1}},
			[][]int{{1, 1, 1}, {1, 3, 1}, {1, 5, 1}}, 4},
		{"a peak in the middle, as low on all sides",
			[][]int{{5, 4, 5}, {4, 6, 4}, {5, 4, 5}},
			[][]int{{1, -1, 1}, {-1, 1, -1}, {3, -1, 5}},
			[][]int{{1, 4, 1}, {2, 1, 2}, {1, 1, 1}},
			[][]int{{1, 1, 1}, {3, 1, 5}, {3, 7, 5}},
			[][]int{{1, 2, 1}, {1, 1, 1}, {1, 1, 1}},
			[][]int{{1, 3, 1}, {1, 1, 1}, {1, 1, 1}}, 2},
	}
}

func lakeFlowCases() []flowCase {
	return []flowCase{
		{"a pit that is filled",
			[][]int{{5, 5, 5}, {5, 1, 5}, {5, 4, 5}},
			[][]int{{-1, 4, -1}, {4, 7, 4}, {7, -1, 7}},
			[][]int{{1, 1, 1}, {1, 4, 1}, {1, 7, 1}},
			[][]int{{0, 7, 2}, {7, 7, 7}, {7, 7, 7}},
			[][]int{{1, 1, 1}, {1, 2, 1}, {1, 2, 1}},
			[][]int{{1, 1, 1}, {1, 3, 1}, {1, 5, 1}}, 3},
		{"a lake that spills over the edge",
			[][]int{{9, 9, 9, 9, 9}, {9, 1, 1, 1, 9}, {9, 1, 1, 1, 9}, {9, 1, 1, 1, 9}, {9, 9, 8, 9, 9}},
			[][]int{{-1, 6, 7, 8, -1}, {6, 7, 12, 7, 8}, {11, 12, 17, 12, 13}, {16, 17, 22, 17, 18}, {-1, 16, -1, 18, -1}},
			[][]int{{1, 1, 1, 1, 1}, {1, 3, 8, 3, 1}, {1, 2, 13, 2, 1}, {1, 3, 20, 3, 1}, {1, 1, 21, 1, 1}},
			[][]int{{0, 22, 22, 22, 4}, {22, 22, 22, 22, 22}, {22, 22, 22, 22, 22}, {22, 22, 22, 22, 22}, {20, 22, 22, 22, 24}},
			[][]int{{1, 1, 1, 1, 1}, {1, 2, 3, 2, 1}, {1, 1, 3, 1, 1}, {1, 2, 3, 2, 1}, {1, 1, 3, 1, 1}},
			[][]int{{1, 1, 1, 1, 1}, {1, 2, 5, 2, 1}, {1, 1, 7, 1, 1}, {1, 2, 11, 2, 1}, {1, 1, 11, 1, 1}}, 6},
		{"a pit that spills into a deeper one, which spills off",
			[][]int{{9, 9, 9, 9, 9}, {9, 4, 6, 0, 3}, {9, 9, 9, 9, 9}},
			[][]int{{-1, 6, 7, 8, 9}, {6, 7, 8, 9, -1}, {-1, 6, 7, 8, 9}},
			[][]int{{1, 1, 1, 1, 1}, {1, 4, 7, 10, 13}, {1, 1, 1, 1, 1}},
			[][]int{{0, 9, 9, 9, 9}, {9, 9, 9, 9, 9}, {10, 9, 9, 9, 9}},
			[][]int{{1, 1, 1, 1, 1}, {1, 2, 2, 2, 2}, {1, 1, 1, 1, 1}},
			[][]int{{1, 1, 1, 1, 1}, {1, 3, 5, 7, 9}, {1, 1, 1, 1, 1}}, 5},
	}
}

// runsTo is FlowOf a cell, told by which cells beside it water leaves in the fewest steps.
func runsTo(h [][]int, water []int, i int) int {
	beside := besideByPlace(h, i)
	target := -1
	for _, k := range slices.Backward(beside) {
		if water[k] < water[i] && (target < 0 || water[k] <= water[target]) {
			target = k
		}
	}
	if target >= 0 || len(beside) < 4 {
		return target
	}
	for steps := range cellsOf(h) {
		for _, k := range beside {
			if water[k] == water[i] && leavesWithin(h, water, k, steps) {
				return k
			}
		}
	}
	return -1
}

// leavesWithin reports whether so many steps over cells of one height lead from a cell to one at the edge or with a lower one beside it.
func leavesWithin(h [][]int, water []int, i, steps int) bool {
	beside := besideByPlace(h, i)
	isLower := func(k int) bool { return water[k] < water[i] }
	leavesFrom := func(k int) bool { return water[k] == water[i] && leavesWithin(h, water, k, steps-1) }
	return len(beside) < 4 || slices.ContainsFunc(beside, isLower) || steps > 0 && slices.ContainsFunc(beside, leavesFrom)
}

// flowByRule is FlowOf told cell by cell, in one list.
func flowByRule(h [][]int) []int {
	water := slices.Concat(filledByLevels(h)...)
	flow := make([]int, len(water))
	for i := range flow {
		flow[i] = runsTo(h, water, i)
	}
	return flow
}

// waysOff returns for each cell those through which water runs from it, one after the other.
func waysOff(flow []int) [][]int {
	ways := make([][]int, len(flow))
	for i := range flow {
		for k := i; k >= 0 && len(ways[i]) <= len(flow); k = flow[k] {
			ways[i] = append(ways[i], k)
		}
	}
	return ways
}

// waysThrough returns how many of the ways lead through each cell.
func waysThrough(ways [][]int) []int {
	counts := make([]int, len(ways))
	for k := range counts {
		for _, way := range ways {
			if slices.Contains(way, k) {
				counts[k]++
			}
		}
	}
	return counts
}

// waysFromSprings returns the ways off from the cells to which none runs, and none for the others.
func waysFromSprings(flow []int) [][]int {
	ways := waysOff(flow)
	for i := range ways {
		if slices.Contains(flow, i) {
			ways[i] = nil
		}
	}
	return ways
}

// orderByRule is StreamOrders of a cell.
func orderByRule(flow []int, i int) int {
	var orders []int
	for k, to := range flow {
		if to == i {
			orders = append(orders, orderByRule(flow, k))
		}
	}
	if len(orders) == 0 {
		return 1
	}
	slices.Sort(orders)
	slices.Reverse(orders)
	if len(orders) > 1 && orders[0] == orders[1] {
		return orders[0] + 1
	}
	return orders[0]
}

// sumWhere returns the sum of the numbers at the places at which others are equal to one.
func sumWhere(numbers, others []int, one int) int {
	sum := 0
	for i, n := range numbers {
		if others[i] == one {
			sum += n
		}
	}
	return sum
}

// checkCells checks that the rows are of the form of the grid, and have the numbers that are wanted.
func checkCells(t *testing.T, name string, h, got [][]int, want []int) {
	t.Helper()
	sameForm := slices.EqualFunc(got, h, func(x, y []int) bool { return len(x) == len(y) })
	if !sameForm || !slices.Equal(slices.Concat(got...), want) {
		t.Fatalf("%s(%v) = %v, not %v", name, h, got, want)
	}
}

func TestFlowThatIsWrittenOut(t *testing.T) {
	for _, c := range flowCases() {
		check := func(name string, got, want [][]int) {
			if !equalRows(got, want) {
				t.Errorf("%s: %s = %v, not %v", c.name, name, got, want)
			}
		}
		check("FlowOf", impl.FlowOf(c.h), c.flow)
		check("AreasOf", impl.AreasOf(c.h), c.areas)
		check("BasinsOf", impl.BasinsOf(c.h), c.basins)
		check("StreamOrders", impl.StreamOrders(c.h), c.orders)
		check("SpringsOf", impl.SpringsOf(c.h), c.springs)
		if got := impl.LongestOf(c.h); got != c.longest {
			t.Errorf("%s: LongestOf = %d, not %d", c.name, got, c.longest)
		}
	}
}

func flowGrids() [][][]int {
	grids := fillGrids()
	for _, c := range flowCases() {
		grids = append(grids, c.h)
	}
	return grids
}

func TestPromise13WaterRunsDownAndOff(t *testing.T) {
	for _, h := range flowGrids() {
		checkCells(t, "FlowOf", h, impl.FlowOf(h), flowByRule(h))
		filled := impl.FillByQueue(h)
		flow := slices.Concat(impl.FlowOf(h)...)
		for i := range flow {
			at := i
			for steps := 0; flow[at] != -1; steps++ {
				to := flow[at]
				if steps == len(flow) || !slices.Contains(impl.AroundOf(h, at), to) || heightAt(filled, to) > heightAt(filled, at) {
					t.Fatalf("FlowOf(%v) = %v leads from %d to %d over %d", h, flow, i, to, at)
				}
				at = to
			}
			if !impl.OnEdge(h, at) {
				t.Fatalf("FlowOf(%v) = %v leads from %d off at %d", h, flow, i, at)
			}
		}
	}
}

func TestPromise14AllWaterRunsOff(t *testing.T) {
	for _, h := range flowGrids() {
		checkCells(t, "AreasOf", h, impl.AreasOf(h), waysThrough(waysOff(flowByRule(h))))
		flow, areas := slices.Concat(impl.FlowOf(h)...), slices.Concat(impl.AreasOf(h)...)
		if sum := sumWhere(areas, flow, -1); sum != len(flow) {
			t.Fatalf("AreasOf(%v) = %v: %d cells run off", h, areas, sum)
		}
		for i, area := range areas {
			if area != 1+sumWhere(areas, flow, i) {
				t.Fatalf("AreasOf(%v) = %v: %d at the cell %d, with FlowOf %v", h, areas, area, i, flow)
			}
		}
	}
}

func TestPromise15BasinsGoWithTheFlow(t *testing.T) {
	for _, h := range flowGrids() {
		var lasts []int
		for _, way := range waysOff(flowByRule(h)) {
			lasts = append(lasts, way[len(way)-1])
		}
		checkCells(t, "BasinsOf", h, impl.BasinsOf(h), lasts)
		flow, areas, basins := slices.Concat(impl.FlowOf(h)...), slices.Concat(impl.AreasOf(h)...), slices.Concat(impl.BasinsOf(h)...)
		for i, basin := range basins {
			if flow[i] == -1 && basin != i || flow[i] != -1 && basin != basins[flow[i]] {
				t.Fatalf("BasinsOf(%v) = %v: %d at the cell %d, with FlowOf %v", h, basins, basin, i, flow)
			}
			if size := sumWhere(slices.Repeat([]int{1}, len(basins)), basins, basin); size != areas[basin] {
				t.Fatalf("BasinsOf(%v) = %v: %d of %d, with AreasOf %v", h, basins, size, basin, areas)
			}
		}
	}
}

func TestPromise16TheLongestWayIsNotLongerThanItsArea(t *testing.T) {
	for _, h := range flowGrids() {
		longest := impl.LongestOf(h)
		want := 0
		for _, way := range waysOff(flowByRule(h)) {
			want = max(want, len(way))
		}
		if longest != want {
			t.Fatalf("LongestOf(%v) = %d, not %d", h, longest, want)
		}
		if areas := slices.Concat(impl.AreasOf(h)...); longest < 1 || longest > slices.Max(areas) {
			t.Fatalf("LongestOf(%v) = %d, with AreasOf %v", h, longest, areas)
		}
	}
}

func TestPromise17StreamsOfAnOrderComeFromManySprings(t *testing.T) {
	for _, h := range flowGrids() {
		byRule := flowByRule(h)
		want := make([]int, len(byRule))
		for i := range want {
			want[i] = orderByRule(byRule, i)
		}
		checkCells(t, "StreamOrders", h, impl.StreamOrders(h), want)
		flow, orders, springs := slices.Concat(impl.FlowOf(h)...), slices.Concat(impl.StreamOrders(h)...), slices.Concat(impl.SpringsOf(h)...)
		for i, order := range orders {
			if order < 1 || 1<<(order-1) > springs[i] || flow[i] != -1 && orders[flow[i]] < order {
				t.Fatalf("StreamOrders(%v) = %v: %d at the cell %d, with FlowOf %v and SpringsOf %v", h, orders, order, i, flow, springs)
			}
		}
	}
}

func TestPromise18SpringsAreAll(t *testing.T) {
	for _, h := range flowGrids() {
		checkCells(t, "SpringsOf", h, impl.SpringsOf(h), waysThrough(waysFromSprings(flowByRule(h))))
		flow, areas, springs := slices.Concat(impl.FlowOf(h)...), slices.Concat(impl.AreasOf(h)...), slices.Concat(impl.SpringsOf(h)...)
		none := 0
		for i := range flow {
			if !slices.Contains(flow, i) {
				none++
			}
			if springs[i] < 1 || springs[i] > areas[i] {
				t.Fatalf("SpringsOf(%v) = %v: %d at the cell %d, with AreasOf %v", h, springs, springs[i], i, areas)
			}
		}
		if sum := sumWhere(springs, flow, -1); sum != none {
			t.Fatalf("SpringsOf(%v) = %v: %d come off of %d, with FlowOf %v", h, springs, sum, none, flow)
		}
	}
}

func TestPromise67WaterFlowsOnWater(t *testing.T) {
	for _, h := range flowGrids() {
		filled := impl.FillByQueue(h)
		flow := impl.FlowOf(h)
		if got := impl.FlowOf(filled); !equalRows(got, flow) || len(got) == 0 {
			t.Fatalf("FlowOf(%v) = %v, but of FillByQueue %v it is %v", h, flow, filled, got)
		}
	}
}

func TestPromise68ThereAreAsManyBasinsAsOutlets(t *testing.T) {
	for _, h := range flowGrids() {
		outlets := 0
		for _, to := range slices.Concat(impl.FlowOf(h)...) {
			if to == -1 {
				outlets++
			}
		}
		basins := slices.Concat(impl.BasinsOf(h)...)
		slices.Sort(basins)
		if got := len(slices.Compact(basins)); got != outlets || got == 0 {
			t.Fatalf("BasinsOf(%v) has %d cells, with %d outlets", h, got, outlets)
		}
	}
}

// gridsToRows are the functions of the chapter with rows as their result.
func gridsToRows() map[string]func([][]int) [][]int {
	return map[string]func([][]int) [][]int{
		"FlowOf":       impl.FlowOf,
		"AreasOf":      impl.AreasOf,
		"BasinsOf":     impl.BasinsOf,
		"StreamOrders": impl.StreamOrders,
		"SpringsOf":    impl.SpringsOf,
	}
}

func TestNoWaterFlowsOnRowsThatAreNoGrid(t *testing.T) {
	for what, h := range badGrids() {
		before := cloneRows(h)
		for name, f := range gridsToRows() {
			if got := f(h); len(got) != 0 {
				t.Errorf("%s: %s = %v", what, name, got)
			}
		}
		if got := impl.LongestOf(h); got != -1 {
			t.Errorf("%s: LongestOf = %d, not -1", what, got)
		}
		if !equalRows(h, before) {
			t.Errorf("%s: changed to %v", what, h)
		}
	}
}

func TestResultsOfFlowAreTheirOwn(t *testing.T) {
	for name, f := range gridsToRows() {
		checkGridToRows(t, name, f)
	}
	for _, h := range flowGrids() {
		before := cloneRows(h)
		impl.LongestOf(h)
		if !equalRows(h, before) {
			t.Fatalf("LongestOf changed %v to %v", before, h)
		}
	}
}
