package tests

import (
	"cmp"
	"math"
	"slices"
	"testing"

	"loop.example/wateronheights/impl"
)

// toldWay is the cells of a way between its ends, with what is told of it.
type toldWay struct {
	cells        []int
	climb, steep int
}

// cutWay is what ways of at most so many steps climb between two cells.
type cutWay struct {
	from, to, steps, climb int
}

// wayCase is a grid with some of its ways, written out.
type wayCase struct {
	name string
	h    [][]int
	ways []toldWay
	cuts []cutWay
}

func wayCases() []wayCase {
	return slices.Concat(oneCellWayCases(), flatWayCases(), slopeWayCases(), rowWayCases(), wallWayCases(), detourWayCases())
}

func oneCellWayCases() []wayCase {
	stays := []toldWay{{[]int{0}, 0, 0}}
	cuts := []cutWay{{0, 0, 0, 0}, {0, 0, 1, 0}, {0, 0, 30, 0}}
	return []wayCase{
		{"one cell", [][]int{{7}}, stays, cuts},
		{"one cell of height 0", [][]int{{0}}, stays, cuts},
		{"one cell of the greatest height", [][]int{{12}}, stays, cuts},
		{"a cell between higher ones", [][]int{{9, 9, 9}, {9, 2, 9}, {9, 9, 9}},
			[]toldWay{{[]int{4}, 0, 0}, {[]int{0}, 0, 0}, {[]int{8}, 0, 0}},
			[]cutWay{{4, 4, 0, 0}, {4, 4, 1, 0}, {4, 4, 2, 0}, {4, 4, 30, 0}, {0, 0, 0, 0}, {8, 8, 0, 0}}},
	}
}

func flatWayCases() []wayCase {
	row := []toldWay{{[]int{0, 1, 2, 3, 4}, 0, 0}, {[]int{4, 3, 2, 1, 0}, 0, 0}, {[]int{2}, 0, 0}, {[]int{3, 2, 1}, 0, 0}}
	square := []toldWay{
		{[]int{0, 1, 2, 3, 4, 9, 14, 19, 24}, 0, 0}, {[]int{24, 19, 14, 9, 4, 3, 2, 1, 0}, 0, 0},
		{[]int{4, 3, 2, 1, 0, 5, 10, 15, 20}, 0, 0}, {[]int{20, 15, 10, 5, 0, 1, 2, 3, 4}, 0, 0},
		{[]int{12}, 0, 0}, {[]int{7, 12, 17}, 0, 0}, {[]int{17, 12, 7}, 0, 0}, {[]int{18, 13, 8, 7, 6}, 0, 0},
	}
	cuts := []cutWay{{0, 24, 0, -1}, {0, 24, 7, -1}, {0, 24, 8, 0}, {0, 24, 9, 0}, {24, 0, 7, -1}, {24, 0, 8, 0}, {0, 24, 30, 0},
		{12, 12, 0, 0}, {12, 13, 0, -1}, {12, 13, 1, 0}}
	return []wayCase{
		{"one row of one height", constantRows(1, 5, 4), row, []cutWay{{0, 4, 3, -1}, {0, 4, 4, 0}, {4, 0, 3, -1}, {4, 0, 4, 0}}},
		{"one column of one height", constantRows(5, 1, 4), row, []cutWay{{0, 4, 3, -1}, {0, 4, 4, 0}, {2, 2, 0, 0}, {2, 3, 0, -1}}},
		{"all of height 0", constantRows(5, 5, 0), square, cuts},
		{"all of one height", constantRows(5, 5, 4), square, cuts},
		{"all of the greatest height", constantRows(5, 5, 12), square, cuts},
	}
}

func slopeWayCases() []wayCase {
	return []wayCase{
		{"a row that rises all along", [][]int{{0, 3, 6, 9, 12}},
			[]toldWay{{[]int{0, 1, 2, 3, 4}, 12, 3}, {[]int{4, 3, 2, 1, 0}, 0, 3}, {[]int{1, 2, 3}, 6, 3}},
			[]cutWay{{0, 4, 3, -1}, {0, 4, 4, 12}, {4, 0, 3, -1}, {4, 0, 4, 0}, {0, 4, 30, 12}}},
		{"a column that falls all along", [][]int{{11}, {7}, {4}, {2}, {1}},
			[]toldWay{{[]int{0, 1, 2, 3, 4}, 0, 4}, {[]int{4, 3, 2, 1, 0}, 10, 4}, {[]int{4, 3, 2}, 3, 2}},
			[]cutWay{{0, 4, 3, -1}, {0, 4, 4, 0}, {4, 0, 4, 10}}},
		{"a slope", [][]int{{0, 1, 2}, {1, 2, 3}, {2, 3, 4}},
			[]toldWay{{[]int{0, 1, 2, 5, 8}, 4, 1}, {[]int{8, 5, 2, 1, 0}, 0, 1}, {[]int{2, 1, 0, 3, 6}, 2, 1}, {[]int{6, 3, 0, 1, 2}, 2, 1}},
			[]cutWay{{0, 8, 3, -1}, {0, 8, 4, 4}, {2, 6, 3, -1}, {2, 6, 4, 2}, {8, 0, 30, 0}}},
		{"the largest slope", [][]int{{0, 1, 2, 3, 4}, {2, 3, 4, 5, 6}, {4, 5, 6, 7, 8}, {6, 7, 8, 9, 10}, {8, 9, 10, 11, 12}},
			[]toldWay{{[]int{0, 1, 2, 3, 4, 9, 14, 19, 24}, 12, 2}, {[]int{24, 19, 14, 9, 4, 3, 2, 1, 0}, 0, 2},
				{[]int{4, 3, 2, 1, 0, 5, 10, 15, 20}, 8, 2}, {[]int{20, 15, 10, 5, 0, 1, 2, 3, 4}, 4, 2}},
			[]cutWay{{0, 24, 7, -1}, {0, 24, 8, 12}, {0, 24, 30, 12}, {24, 0, 7, -1}, {24, 0, 8, 0}}},
	}
}

func rowWayCases() []wayCase {
	return []wayCase{
		{"one row", [][]int{{1, 3, 0, 5, 2}},
			[]toldWay{{[]int{0, 1, 2, 3, 4}, 7, 5}, {[]int{4, 3, 2, 1, 0}, 6, 5}, {[]int{0, 1}, 2, 2}, {[]int{1, 0}, 0, 2}, {[]int{3}, 0, 0}},
			[]cutWay{{0, 4, 3, -1}, {0, 4, 4, 7}, {0, 4, 30, 7}, {4, 0, 4, 6}, {0, 1, 0, -1}, {0, 1, 1, 2}}},
		{"one column", [][]int{{5}, {2}, {6}, {1}, {9}},
			[]toldWay{{[]int{0, 1, 2, 3, 4}, 12, 8}, {[]int{4, 3, 2, 1, 0}, 8, 8}, {[]int{1, 2, 3}, 4, 5}},
			[]cutWay{{0, 4, 3, -1}, {0, 4, 4, 12}, {4, 0, 4, 8}}},
		{"from the least to the greatest height", [][]int{{0, 12}},
			[]toldWay{{[]int{0, 1}, 12, 12}, {[]int{1, 0}, 0, 12}}, []cutWay{{0, 1, 0, -1}, {0, 1, 1, 12}, {1, 0, 1, 0}}},
		{"a row of least and greatest heights", [][]int{{0, 12, 0, 12, 0}},
			[]toldWay{{[]int{0, 1, 2, 3, 4}, 24, 12}, {[]int{1, 2, 3}, 12, 12}, {[]int{1, 2}, 0, 12}}, []cutWay{{0, 4, 4, 24}, {0, 4, 30, 24}}},
	}
}

func wallWayCases() []wayCase {
	return []wayCase{
		{"a bowl, into which the steepest step is less over its pass", [][]int{{5, 5, 5}, {5, 1, 5}, {5, 4, 5}},
			[]toldWay{{[]int{0, 1, 2, 5, 8}, 0, 0}, {[]int{0, 1, 4}, 0, 3}, {[]int{4, 1, 0}, 4, 3}, {[]int{0, 3, 6, 7}, 0, 1},
				{[]int{7, 6, 3, 0}, 1, 1}, {[]int{4, 5, 8}, 4, 3}, {[]int{0}, 0, 0}},
			[]cutWay{{0, 8, 3, -1}, {0, 8, 4, 0}, {0, 4, 1, -1}, {0, 4, 2, 0}, {0, 7, 2, -1}, {0, 7, 3, 0}}},
		{"a wall with a way around it", [][]int{{0, 9, 0}, {0, 9, 0}, {0, 0, 0}},
			[]toldWay{{[]int{0, 3, 6, 7, 8, 5, 2}, 0, 0}, {[]int{2, 5, 8, 7, 6, 3, 0}, 0, 0}, {[]int{0, 1}, 9, 9}, {[]int{1, 0}, 0, 9}},
			[]cutWay{{0, 2, 1, -1}, {0, 2, 2, 9}, {0, 2, 3, 9}, {0, 2, 5, 9}, {0, 2, 6, 0}, {0, 2, 7, 0}, {0, 2, 30, 0}, {3, 5, 3, 9}, {3, 5, 4, 0}}},
		{"a wall that is lower further away", [][]int{{0, 9, 0}, {0, 5, 0}, {0, 0, 0}},
			[]toldWay{{[]int{0, 3, 6, 7, 8, 5, 2}, 0, 0}, {[]int{0, 3, 4}, 5, 5}},
			[]cutWay{{0, 2, 1, -1}, {0, 2, 2, 9}, {0, 2, 3, 9}, {0, 2, 4, 5}, {0, 2, 5, 5}, {0, 2, 6, 0}, {0, 2, 30, 0}}},
		{"the most winding way", [][]int{{1, 1, 1, 1, 1}, {9, 9, 9, 9, 1}, {1, 1, 1, 1, 1}, {1, 9, 9, 9, 9}, {1, 1, 1, 1, 1}},
			[]toldWay{{[]int{0, 1, 2, 3, 4, 9, 14, 13, 12, 11, 10, 15, 20, 21, 22, 23, 24}, 0, 0},
				{[]int{24, 23, 22, 21, 20, 15, 10, 11, 12, 13, 14, 9, 4, 3, 2, 1, 0}, 0, 0}, {[]int{5, 6, 7}, 0, 0}},
			[]cutWay{{0, 24, 7, -1}, {0, 24, 8, 8}, {0, 24, 15, 8}, {0, 24, 16, 0}, {0, 24, 30, 0}, {24, 0, 15, 8}, {24, 0, 16, 0}}},
	}
}

func detourWayCases() []wayCase {
	return []wayCase{
		{"several ways around a peak", [][]int{{3, 3, 3}, {3, 7, 3}, {3, 3, 3}},
			[]toldWay{{[]int{0, 1, 2, 5, 8}, 0, 0}, {[]int{8, 5, 2, 1, 0}, 0, 0}, {[]int{1, 0, 3, 6, 7}, 0, 0}, {[]int{7, 6, 3, 0, 1}, 0, 0},
				{[]int{3, 0, 1, 2, 5}, 0, 0}, {[]int{1, 4}, 4, 4}},
			[]cutWay{{1, 7, 1, -1}, {1, 7, 2, 4}, {1, 7, 3, 4}, {1, 7, 4, 0}}},
		{"ways that climb as much in one step as in several", [][]int{{0, 1, 2}, {4, 4, 3}},
			[]toldWay{{[]int{0, 3}, 4, 1}, {[]int{3, 0}, 0, 1}, {[]int{0, 1, 4}, 4, 1}}, []cutWay{{0, 3, 1, 4}, {0, 3, 5, 4}}},
		{"a way around that is less steep, and climbs more", [][]int{{0, 6, 6}, {2, 12, 8}, {4, 6, 8}},
			[]toldWay{{[]int{0, 1}, 6, 2}, {[]int{1, 0}, 0, 2}, {[]int{0, 3, 6, 7}, 6, 2}},
			[]cutWay{{0, 1, 0, -1}, {0, 1, 1, 6}, {0, 1, 7, 6}}},
		{"a first step that is no climb, and leads away", [][]int{{5, 4, 9}, {6, 9, 5}, {6, 6, 5}},
			[]toldWay{{[]int{0, 3, 6, 7, 8, 5}, 1, 1}, {[]int{5, 8, 7, 6, 3, 0}, 1, 1}, {[]int{1, 0, 3, 6, 7}, 2, 1}},
			[]cutWay{{0, 5, 2, -1}, {0, 5, 3, 4}, {0, 5, 4, 4}, {0, 5, 5, 1}, {0, 5, 30, 1}}},
	}
}

// wayGrids returns the grids written out here, all of few cells and low heights, slopes, and for each shape
// some of mixed heights, and some of two heights of which few cells, or many, have the greater one.
func wayGrids() [][][]int {
	var grids [][][]int
	for _, c := range wayCases() {
		grids = append(grids, c.h)
	}
	grids = slices.Concat(grids, everyGrid(1, 3, 4), everyGrid(3, 1, 4), everyGrid(2, 2, 4), everyGrid(2, 3, 2), everyGrid(3, 2, 2), everyGrid(1, 5, 3))
	mixed := mixer(7)
	for r := 1; r <= impl.MaxSide; r++ {
		for c := 1; c <= impl.MaxSide; c++ {
			grids = append(grids, slopes(r, c)...)
			for n := range 8 {
				grids = append(grids, gridOf(r, c, func() int { return mixed([]int{2, 3, 5, impl.MaxHeight + 1}[n%4]) }))
				grids = append(grids, gridOf(r, c, func() int {
					if mixed(10) <= n {
						return 11
					}
					return 2
				}))
			}
		}
	}
	return grids
}

// slopes returns grids of so many rows and columns that rise and that fall all along.
func slopes(r, c int) [][][]int {
	n := -1
	next := func() int {
		n++
		return n/c*2 + n%c
	}
	rises := gridOf(r, c, next)
	return [][][]int{rises, upsideDown(rises)}
}

// forEachWayGrid checks each of the grids, until one is wrong.
func forEachWayGrid(t *testing.T, check func(h [][]int) bool) {
	t.Helper()
	for _, h := range wayGrids() {
		if !check(h) {
			t.Fatalf("%v: ClimbBetween %v, FewestSteps %v, SteepBetween %v", h,
				betweenAll(h, impl.ClimbBetween), betweenAll(h, impl.FewestSteps), betweenAll(h, impl.SteepBetween))
		}
	}
}

// forEachPair checks all cells with all cells of each of the grids, until two are wrong.
func forEachPair(t *testing.T, check func(h [][]int, i, k int) bool) {
	t.Helper()
	for _, h := range wayGrids() {
		for i := range cellsOf(h) {
			for k := range cellsOf(h) {
				if !check(h, i, k) {
					t.Fatalf("%v: from %d to %d ClimbBetween %d, FewestSteps %d, WayOf %v, SteepBetween %d", h, i, k,
						impl.ClimbBetween(h, i, k), impl.FewestSteps(h, i, k), impl.WayOf(h, i, k), impl.SteepBetween(h, i, k))
				}
			}
		}
	}
}

// betweenAll returns what is told from each cell to each one, in a row for each cell from which.
func betweenAll(h [][]int, tell func(h [][]int, i, k int) int) [][]int {
	n := cellsOf(h)
	pair := -1
	return gridOf(n, n, func() int {
		pair++
		return tell(h, pair/n, pair%n)
	})
}

func risesBy(h [][]int, i, k int) int { return heightAt(h, k) - heightAt(h, i) }

// climbsAlong returns the climbs of a way together.
func climbsAlong(h [][]int, way []int) int {
	sum := 0
	for n := 1; n < len(way); n++ {
		sum += max(risesBy(h, way[n-1], way[n]), 0)
	}
	return sum
}

// steepestAlong returns the most by which a step of a way rises or falls.
func steepestAlong(h [][]int, way []int) int {
	most := 0
	for n := 1; n < len(way); n++ {
		rise := risesBy(h, way[n-1], way[n])
		most = max(most, rise, -rise)
	}
	return most
}

// climbsByLifts returns the least climbs from a cell to each one told by lifts: with each one all ways may climb 1 more.
func climbsByLifts(h [][]int, i int) []int {
	const untold = -1
	climbs := slices.Repeat([]int{untold}, cellsOf(h))
	climbs[i] = 0
	for lifts := 0; slices.Contains(climbs, untold); lifts++ {
		for told := true; told; {
			told = false
			for k := range climbs {
				if climbs[k] == untold && slices.ContainsFunc(besideByPlace(h, k), func(last int) bool {
					return climbs[last] != untold && climbs[last]+max(risesBy(h, last, k), 0) <= lifts
				}) {
					climbs[k] = lifts
					told = true
				}
			}
		}
	}
	return climbs
}

// never is more than all climbs of a way of at most MaxSteps.
const never = 1000

// climbsOfExactly returns for each number of steps the least climbs from a cell to each one of ways of just so many; never if there are none.
func climbsOfExactly(h [][]int, i int) [][]int {
	climbs := constantRows(impl.MaxSteps+1, cellsOf(h), never)
	climbs[0][i] = 0
	for steps := 1; steps <= impl.MaxSteps; steps++ {
		for last, climb := range climbs[steps-1] {
			for _, k := range besideByPlace(h, last) {
				climbs[steps][k] = min(climbs[steps][k], climb+max(risesBy(h, last, k), 0))
			}
		}
	}
	return climbs
}

// climbsByExactly is ClimbWithin from a cell, for each number of steps and each cell, told by ways of just so many steps and of fewer.
func climbsByExactly(h [][]int, i int) [][]int {
	climbs := climbsOfExactly(h, i)
	for steps := 1; steps <= impl.MaxSteps; steps++ {
		for k := range climbs[steps] {
			climbs[steps][k] = min(climbs[steps][k], climbs[steps-1][k])
		}
	}
	for _, row := range climbs {
		for k, climb := range row {
			if climb >= never {
				row[k] = -1
			}
		}
	}
	return climbs
}

// stepsByExactly returns the fewest steps from a cell to each one with the least climbs.
func stepsByExactly(h [][]int, i int) []int {
	climbs := climbsByExactly(h, i)
	steps := make([]int, cellsOf(h))
	for k, least := range climbs[impl.MaxSteps] {
		for climbs[steps[k]][k] != least {
			steps[k]++
		}
	}
	return steps
}

// steepsByLevels is SteepBetween all cells told by levels: the least one at which both are in one piece.
func steepsByLevels(h [][]int) [][]int {
	steeps := constantRows(cellsOf(h), cellsOf(h), -1)
	for level := impl.MaxHeight; level >= 0; level-- {
		near := func(h [][]int, i, k int) bool {
			return haveASideInCommon(h, i, k) && steepestAlong(h, []int{i, k}) <= level
		}
		for _, piece := range piecesByMerging(h, near, func(int) bool { return true }) {
			for _, i := range piece {
				for _, k := range piece {
					steeps[i][k] = level
				}
			}
		}
	}
	return steeps
}

// waysOn returns all ways that go on from a way to a cell, and on which no cell comes twice.
func waysOn(h [][]int, way []int, end int) [][]int {
	last := way[len(way)-1]
	if last == end {
		return [][]int{way}
	}
	var ways [][]int
	for _, next := range besideByPlace(h, last) {
		if !slices.Contains(way, next) {
			ways = append(ways, waysOn(h, append(slices.Clone(way), next), end)...)
		}
	}
	return ways
}

// byEase compares ways by their climbs, their steps, and the cells to which they go first: those
// beside a cell (AroundOf) are in the order of their numbers.
func byEase(h [][]int) func(a, b []int) int {
	return func(a, b []int) int {
		return cmp.Or(climbsAlong(h, a)-climbsAlong(h, b), len(a)-len(b), slices.Compare(a, b))
	}
}

func TestWaysThatAreWrittenOut(t *testing.T) {
	for _, c := range wayCases() {
		for _, want := range c.ways {
			i, k := want.cells[0], want.cells[len(want.cells)-1]
			if got := impl.WayOf(c.h, i, k); !slices.Equal(got, want.cells) {
				t.Errorf("%s: WayOf %d to %d = %v, not %v", c.name, i, k, got, want.cells)
			}
			if got := impl.FewestSteps(c.h, i, k); got != len(want.cells)-1 {
				t.Errorf("%s: FewestSteps %d to %d = %d, not %d", c.name, i, k, got, len(want.cells)-1)
			}
			if got := impl.ClimbBetween(c.h, i, k); got != want.climb {
				t.Errorf("%s: ClimbBetween %d and %d = %d, not %d", c.name, i, k, got, want.climb)
			}
			if got := impl.SteepBetween(c.h, i, k); got != want.steep {
				t.Errorf("%s: SteepBetween %d and %d = %d, not %d", c.name, i, k, got, want.steep)
			}
		}
		for _, cut := range c.cuts {
			if got := impl.ClimbWithin(c.h, cut.from, cut.to, cut.steps); got != cut.climb {
				t.Errorf("%s: ClimbWithin %d to %d in %d steps = %d, not %d", c.name, cut.from, cut.to, cut.steps, got, cut.climb)
			}
		}
	}
}

// On few cells all ways can be looked through.
func TestWaysAreTheEasiestOfAll(t *testing.T) {
	forEachPair(t, func(h [][]int, i, k int) bool {
		if cellsOf(h) > 9 {
			return true
		}
		ways := waysOn(h, []int{i}, k)
		best := slices.MinFunc(ways, byEase(h))
		steep := impl.MaxHeight
		for _, way := range ways {
			steep = min(steep, steepestAlong(h, way))
		}
		return slices.Equal(impl.WayOf(h, i, k), best) && impl.FewestSteps(h, i, k) == len(best)-1 &&
			impl.ClimbBetween(h, i, k) == climbsAlong(h, best) && impl.SteepBetween(h, i, k) == steep
	})
}

func TestPromise36WhatGoesUpComesDown(t *testing.T) {
	forEachWayGrid(t, func(h [][]int) bool {
		climbs := betweenAll(h, impl.ClimbBetween)
		for i := range climbs {
			if climbs[i][i] != 0 || !slices.Equal(climbs[i], climbsByLifts(h, i)) {
				return false
			}
			for k := range climbs {
				if climbs[i][k]-climbs[k][i] != risesBy(h, i, k) {
					return false
				}
				for third := range climbs {
					if climbs[i][third]+climbs[third][k] < climbs[i][k] {
						return false
					}
				}
			}
		}
		return true
	})
}

func TestPromise37MoreStepsClimbNoMore(t *testing.T) {
	forEachPair(t, func(h [][]int, i, k int) bool {
		least, fewest := impl.ClimbBetween(h, i, k), impl.FewestSteps(h, i, k)
		last := never
		for steps := range fewest + 2 {
			climb := impl.ClimbWithin(h, i, k, steps)
			if climb == -1 {
				climb = never
			}
			if climb > last || climb < least || (climb == least) != (steps >= fewest) {
				return false
			}
			last = climb
		}
		return impl.ClimbWithin(h, i, k, impl.MaxSteps) == least
	})
}

func TestClimbWithinEachNumberOfSteps(t *testing.T) {
	forEachWayGrid(t, func(h [][]int) bool {
		for i := range cellsOf(h) {
			climbs := climbsByExactly(h, i)
			for steps := 0; steps <= impl.MaxSteps; steps++ {
				// The cells to which one goes take turns, so that each one is met with some numbers of steps.
				for k := (i + steps) % 7; k < cellsOf(h); k += 7 {
					if impl.ClimbWithin(h, i, k, steps) != climbs[steps][k] {
						return false
					}
				}
			}
		}
		return true
	})
}

// isWayOf reports whether cells are a way from one to another one, over cells beside each other.
func isWayOf(h [][]int, way []int, i, k int) bool {
	for n := 1; n < len(way); n++ {
		if !haveASideInCommon(h, way[n-1], way[n]) {
			return false
		}
	}
	return len(way) > 0 && way[0] == i && way[len(way)-1] == k
}

func TestPromise38WaysAreAsTheyAreTold(t *testing.T) {
	forEachPair(t, func(h [][]int, i, k int) bool {
		way := impl.WayOf(h, i, k)
		return isWayOf(h, way, i, k) && climbsAlong(h, way) == impl.ClimbBetween(h, i, k) && len(way)-1 == impl.FewestSteps(h, i, k)
	})
}

// wayByRule is WayOf told cell by cell from the least climbs and the fewest steps between all cells.
func wayByRule(h, climbs, steps [][]int, i, k int) []int {
	way := []int{i}
	for i != k {
		beside := besideByPlace(h, i)
		first := slices.IndexFunc(beside, func(next int) bool {
			return max(risesBy(h, i, next), 0)+climbs[next][k] == climbs[i][k] && steps[next][k] == steps[i][k]-1
		})
		i = beside[first]
		way = append(way, i)
	}
	return way
}

func TestWaysGoToTheFirstCellThatIsAsEasy(t *testing.T) {
	forEachWayGrid(t, func(h [][]int) bool {
		var climbs, steps [][]int
		for i := range cellsOf(h) {
			climbs = append(climbs, climbsByLifts(h, i))
			steps = append(steps, stepsByExactly(h, i))
		}
		for i := range climbs {
			for k := range climbs {
				if !slices.Equal(impl.WayOf(h, i, k), wayByRule(h, climbs, steps, i, k)) {
					return false
				}
			}
		}
		return true
	})
}

func TestPromise39TheWayBackIsAsLong(t *testing.T) {
	forEachWayGrid(t, func(h [][]int) bool {
		steps := betweenAll(h, impl.FewestSteps)
		for i := range steps {
			if !slices.Equal(steps[i], stepsByExactly(h, i)) {
				return false
			}
			for k := range steps {
				rows, columns := apart(h, i, k)
				if steps[i][k] != steps[k][i] || steps[i][k] < rows+columns {
					return false
				}
			}
		}
		return true
	})
}

func TestPromise40TheLeastSteepestStepIsNoMoreThanAllClimbs(t *testing.T) {
	forEachWayGrid(t, func(h [][]int) bool {
		steeps, climbs := betweenAll(h, impl.SteepBetween), betweenAll(h, impl.ClimbBetween)
		for i := range steeps {
			for k, steep := range steeps[i] {
				if steep != steeps[k][i] || steep > max(climbs[i][k], climbs[k][i]) {
					return false
				}
				for third := range steeps {
					if steep > max(steeps[i][third], steeps[third][k]) {
						return false
					}
				}
			}
		}
		return equalRows(steeps, steepsByLevels(h))
	})
}

func TestPromise77TheWayBackClimbsWhatTheWayFalls(t *testing.T) {
	forEachPair(t, func(h [][]int, i, k int) bool {
		way := impl.WayOf(h, i, k)
		return isWayOf(h, way, i, k) && climbsAlong(h, backwards(way)) == impl.ClimbBetween(h, k, i)
	})
}

func TestPromise78PassesNeedClimbs(t *testing.T) {
	forEachPair(t, func(h [][]int, i, k int) bool {
		pass, lowest := impl.PassBetween(h, i, k), slices.Min(slices.Concat(h...))
		return impl.ClimbBetween(h, i, k) >= pass-heightAt(h, i) && impl.SteepBetween(h, i, k) <= pass-lowest
	})
}

func TestWaysBetweenACellAndItselfTakeNoSteps(t *testing.T) {
	forEachWayGrid(t, func(h [][]int) bool {
		for i := range cellsOf(h) {
			for steps := 0; steps <= impl.MaxSteps; steps++ {
				if impl.ClimbWithin(h, i, i, steps) != 0 {
					return false
				}
			}
			if impl.ClimbBetween(h, i, i) != 0 || impl.FewestSteps(h, i, i) != 0 || impl.SteepBetween(h, i, i) != 0 ||
				!slices.Equal(impl.WayOf(h, i, i), []int{i}) {
				return false
			}
		}
		return true
	})
}

// checkNoWay checks that what is told of two cells is what the document states for arguments that are not valid.
func checkNoWay(t *testing.T, what string, h [][]int, i, k int) {
	t.Helper()
	climb, fewest, way, steep := impl.ClimbBetween(h, i, k), impl.FewestSteps(h, i, k), impl.WayOf(h, i, k), impl.SteepBetween(h, i, k)
	if climb != -1 || fewest != -1 || len(way) != 0 || steep != -1 {
		t.Errorf("%s: from %d to %d ClimbBetween %d, FewestSteps %d, WayOf %v, SteepBetween %d", what, i, k, climb, fewest, way, steep)
	}
	for _, steps := range append(badSteps(), 0, 1, impl.MaxSteps) {
		if got := impl.ClimbWithin(h, i, k, steps); got != -1 {
			t.Errorf("%s: ClimbWithin %d to %d in %d steps = %d, not -1", what, i, k, steps, got)
		}
	}
}

func badSteps() []int {
	return []int{-1, impl.MaxSteps + 1, -impl.MaxSteps, 1000, math.MinInt, math.MaxInt}
}

func TestNoWaysAreOnRowsThatAreNoGrid(t *testing.T) {
	for what, h := range badGrids() {
		before := cloneRows(h)
		for _, cells := range [][2]int{{0, 0}, {0, 1}, {1, 0}, {1, 1}, {-1, 0}, {0, 30}, {-1, -1}, {30, 30}} {
			checkNoWay(t, what, h, cells[0], cells[1])
		}
		if !equalRows(h, before) {
			t.Errorf("%s: changed to %v", what, h)
		}
	}
}

func TestNoWaysAreBetweenCellsThatAreNotInTheGrid(t *testing.T) {
	forEachWayGrid(t, func(h [][]int) bool {
		last := cellsOf(h) - 1
		for _, i := range badCells(h) {
			for _, cells := range [][2]int{{i, 0}, {0, i}, {i, last}, {last, i}, {i, i}, {i, -1}, {last + 1, i}} {
				checkNoWay(t, "a cell that is not in the grid", h, cells[0], cells[1])
			}
		}
		return !t.Failed()
	})
}

func TestNoWaysHaveOtherNumbersOfSteps(t *testing.T) {
	if impl.MaxSteps != 30 {
		t.Errorf("limit %d", impl.MaxSteps)
	}
	forEachPair(t, func(h [][]int, i, k int) bool {
		for _, steps := range badSteps() {
			if impl.ClimbWithin(h, i, k, steps) != -1 {
				return false
			}
		}
		return true
	})
}

func TestWaysAreTheirOwnAndKeepTheirGrid(t *testing.T) {
	forEachWayGrid(t, func(h [][]int) bool {
		before := cloneRows(h)
		for i := range cellsOf(h) {
			k := cellsOf(h) - 1 - i
			way := impl.WayOf(h, i, k)
			want := slices.Clone(way)
			overwrite(way)
			impl.ClimbBetween(h, i, k)
			impl.ClimbWithin(h, i, k, 4)
			impl.FewestSteps(h, i, k)
			impl.SteepBetween(h, i, k)
			if !equalRows(h, before) || !slices.Equal(impl.WayOf(h, i, k), want) {
				return false
			}
		}
		return true
	})
}
