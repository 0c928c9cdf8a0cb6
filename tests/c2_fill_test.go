package tests

import (
	"slices"
	"testing"

	"loop.example/wateronheights/impl"
)

// filledCase is a grid with what stands on it, written out.
type filledCase struct {
	name  string
	h     [][]int
	water [][]int
	lakes [][]int
	sum   int
}

// dryCase is a grid on which no water stands.
func dryCase(name string, h [][]int) filledCase {
	return filledCase{name: name, h: h, water: h}
}

func filledCases() []filledCase {
	return slices.Concat(dryCases(), lakeCases(), pitInPitCases())
}

func dryCases() []filledCase {
	return []filledCase{
		dryCase("one cell", [][]int{{7}}),
		dryCase("one cell of height 0", [][]int{{0}}),
		dryCase("one row", [][]int{{9, 0, 9, 1, 9}}),
		dryCase("one column", [][]int{{9}, {0}, {9}, {1}, {9}}),
		dryCase("two rows", [][]int{{9, 9, 9, 9, 9}, {9, 0, 1, 0, 9}}),
		dryCase("two columns", [][]int{{9, 9}, {0, 9}, {9, 1}, {9, 9}}),
		dryCase("two rows and columns", [][]int{{12, 0}, {0, 12}}),
		dryCase("one height", [][]int{{5, 5, 5}, {5, 5, 5}, {5, 5, 5}}),
		dryCase("a peak", [][]int{{1, 1, 1}, {1, 8, 1}, {1, 1, 1}}),
		dryCase("a pit with a way off", [][]int{{9, 9, 9}, {9, 4, 9}, {9, 3, 9}}),
		dryCase("a pit with a flat way off", [][]int{{9, 9, 9}, {9, 4, 9}, {9, 4, 9}}),
	}
}

func lakeCases() []filledCase {
	return []filledCase{
		{"a pit up to the greatest height",
			[][]int{{12, 12, 12}, {12, 0, 12}, {12, 12, 12}},
			[][]int{{12, 12, 12}, {12, 12, 12}, {12, 12, 12}},
			[][]int{{4, 1, 12}}, 12},
		{"low corners beside no pit",
			[][]int{{0, 9, 0}, {9, 2, 8}, {0, 9, 0}},
			[][]int{{0, 9, 0}, {9, 8, 8}, {0, 9, 0}},
			[][]int{{4, 1, 8}}, 6},
		{"lakes beside lakes, of one height, with a dry cell of it between",
			[][]int{{9, 7, 9, 9, 9}, {9, 1, 7, 2, 9}, {9, 9, 9, 9, 9}},
			[][]int{{9, 7, 9, 9, 9}, {9, 7, 7, 7, 9}, {9, 9, 9, 9, 9}},
			[][]int{{6, 1, 7}, {8, 1, 7}}, 11},
		{"lakes beside lakes, of two heights",
			[][]int{{9, 5, 9, 9, 9}, {9, 1, 7, 2, 9}, {9, 9, 9, 9, 9}},
			[][]int{{9, 5, 9, 9, 9}, {9, 5, 7, 7, 9}, {9, 9, 9, 9, 9}},
			[][]int{{6, 1, 5}, {8, 1, 7}}, 9},
		{"lakes at each other's corners",
			[][]int{{9, 9, 9, 9}, {9, 1, 9, 9}, {9, 9, 2, 9}, {9, 9, 9, 9}},
			[][]int{{9, 9, 9, 9}, {9, 9, 9, 9}, {9, 9, 9, 9}, {9, 9, 9, 9}},
			[][]int{{5, 1, 9}, {10, 1, 9}}, 15},
		{"five lakes and four dry cells",
			[][]int{{4, 4, 4, 4, 4}, {4, 0, 4, 1, 4}, {4, 4, 2, 4, 4}, {4, 1, 4, 3, 4}, {4, 4, 4, 4, 4}},
			[][]int{{4, 4, 4, 4, 4}, {4, 4, 4, 4, 4}, {4, 4, 4, 4, 4}, {4, 4, 4, 4, 4}, {4, 4, 4, 4, 4}},
			[][]int{{6, 1, 4}, {8, 1, 4}, {12, 1, 4}, {16, 1, 4}, {18, 1, 4}}, 13},
		{"a lake whose first cell is not the deepest, ahead of the one to the left of it",
			[][]int{{9, 9, 9, 9, 9}, {9, 9, 9, 5, 9}, {9, 3, 9, 6, 9}, {9, 9, 9, 0, 9}, {9, 9, 9, 9, 9}},
			[][]int{{9, 9, 9, 9, 9}, {9, 9, 9, 9, 9}, {9, 9, 9, 9, 9}, {9, 9, 9, 9, 9}, {9, 9, 9, 9, 9}},
			[][]int{{8, 3, 9}, {11, 1, 9}}, 22},
		{"a winding lake",
			[][]int{{9, 9, 9, 9, 9}, {9, 1, 9, 1, 9}, {9, 1, 9, 1, 9}, {9, 1, 1, 1, 9}, {9, 9, 9, 8, 9}},
			[][]int{{9, 9, 9, 9, 9}, {9, 8, 9, 8, 9}, {9, 8, 9, 8, 9}, {9, 8, 8, 8, 9}, {9, 9, 9, 8, 9}},
			[][]int{{6, 7, 8}}, 49},
	}
}

func pitInPitCases() []filledCase {
	return []filledCase{
		{"a pit in a pit, both under water",
			[][]int{{9, 9, 7, 9, 9}, {9, 5, 5, 5, 9}, {9, 5, 1, 5, 9}, {9, 5, 5, 5, 9}, {9, 9, 9, 9, 9}},
			[][]int{{9, 9, 7, 9, 9}, {9, 7, 7, 7, 9}, {9, 7, 7, 7, 9}, {9, 7, 7, 7, 9}, {9, 9, 9, 9, 9}},
			[][]int{{6, 9, 7}}, 22},
		{"a pit in a pit that runs off",
			[][]int{{9, 9, 3, 9, 9}, {9, 5, 5, 5, 9}, {9, 5, 1, 5, 9}, {9, 5, 5, 5, 9}, {9, 9, 9, 9, 9}},
			[][]int{{9, 9, 3, 9, 9}, {9, 5, 5, 5, 9}, {9, 5, 5, 5, 9}, {9, 5, 5, 5, 9}, {9, 9, 9, 9, 9}},
			[][]int{{12, 1, 5}}, 4},
		{"a peak in a pit",
			[][]int{{9, 9, 7, 9, 9}, {9, 5, 5, 5, 9}, {9, 5, 8, 5, 9}, {9, 5, 5, 5, 9}, {9, 9, 9, 9, 9}},
			[][]int{{9, 9, 7, 9, 9}, {9, 7, 7, 7, 9}, {9, 7, 8, 7, 9}, {9, 7, 7, 7, 9}, {9, 9, 9, 9, 9}},
			[][]int{{6, 8, 7}}, 16},
		{"a pit in a ring that is higher than the water around it",
			[][]int{{12, 12, 4, 12, 12}, {12, 3, 3, 3, 12}, {12, 8, 8, 8, 12}, {12, 8, 0, 8, 12}, {12, 12, 12, 12, 12}},
			[][]int{{12, 12, 4, 12, 12}, {12, 4, 4, 4, 12}, {12, 8, 8, 8, 12}, {12, 8, 8, 8, 12}, {12, 12, 12, 12, 12}},
			[][]int{{6, 3, 4}, {17, 1, 8}}, 11},
		{"a pit that spills into a deeper one, which spills off",
			[][]int{{9, 9, 9, 9, 9}, {9, 4, 6, 0, 3}, {9, 9, 9, 9, 9}},
			[][]int{{9, 9, 9, 9, 9}, {9, 6, 6, 3, 3}, {9, 9, 9, 9, 9}},
			[][]int{{6, 1, 6}, {8, 1, 3}}, 5},
	}
}

// fillGrids returns the samples, the grids written out here, and for each shape with cells inside
// some with a high rim, on which lakes are large, and the steps between heights few.
func fillGrids() [][][]int {
	grids := sampleGrids()
	for _, c := range filledCases() {
		grids = append(grids, c.h)
	}
	mixed := mixer(2)
	for r := 3; r <= impl.MaxSide; r++ {
		for c := 3; c <= impl.MaxSide; c++ {
			for n := range 120 {
				h := gridOf(r, c, func() int { return mixed(2 + n%6) })
				for i := range cellsOf(h) {
					if len(besideByPlace(h, i)) < 4 && mixed(10) > 0 {
						h[i/c][i%c] += 6
					}
				}
				grids = append(grids, h)
			}
		}
	}
	return grids
}

// floodedFrom returns which cells are reached from some over cells beside each other of which a rule holds.
func floodedFrom(h [][]int, from []int, holds func(int) bool) []bool {
	reached := make([]bool, cellsOf(h))
	for len(from) > 0 {
		i := from[0]
		from = from[1:]
		if reached[i] || !holds(i) {
			continue
		}
		reached[i] = true
		from = append(from, besideByPlace(h, i)...)
	}
	return reached
}

func edgeCells(h [][]int) []int {
	var cells []int
	for i := range cellsOf(h) {
		if len(besideByPlace(h, i)) < 4 {
			cells = append(cells, i)
		}
	}
	return cells
}

// filledByLevels is FillByQueue told by levels: the first one at which a cell is joined to the edge.
func filledByLevels(h [][]int) [][]int {
	water := cloneRows(h)
	for level := impl.MaxHeight; level >= 0; level-- {
		reached := floodedFrom(h, edgeCells(h), func(i int) bool { return heightAt(h, i) <= level })
		for i := range reached {
			if reached[i] {
				water[i/len(h[0])][i%len(h[0])] = level
			}
		}
	}
	return water
}

// lakeCells returns the cells of the lake of a cell, ascending, and none if it is dry.
func lakeCells(h, water [][]int, i int) []int {
	reached := floodedFrom(h, []int{i}, func(k int) bool {
		return heightAt(water, k) > heightAt(h, k) && heightAt(water, k) == heightAt(water, i)
	})
	var cells []int
	for k := range reached {
		if reached[k] {
			cells = append(cells, k)
		}
	}
	return cells
}

// lakesByLevels is LakesOf told by levels.
func lakesByLevels(h [][]int) [][]int {
	water := filledByLevels(h)
	var lakes [][]int
	for i := range cellsOf(h) {
		if cells := lakeCells(h, water, i); len(cells) > 0 && cells[0] == i {
			lakes = append(lakes, []int{i, len(cells), heightAt(water, i)})
		}
	}
	return lakes
}

func minus(a, b [][]int) [][]int {
	d := cloneRows(a)
	for r := range d {
		for c := range d[r] {
			d[r][c] -= b[r][c]
		}
	}
	return d
}

// raised returns a grid with all heights 1 more.
func raised(h [][]int) [][]int {
	u := cloneRows(h)
	for r := range u {
		for c := range u[r] {
			u[r][c]++
		}
	}
	return u
}

func sumOf(rows [][]int) int {
	sum := 0
	for _, n := range slices.Concat(rows...) {
		sum += n
	}
	return sum
}

func TestFilledGridsThatAreWrittenOut(t *testing.T) {
	for _, c := range filledCases() {
		if got := impl.FillByQueue(c.h); !equalRows(got, c.water) {
			t.Errorf("%s: FillByQueue = %v, not %v", c.name, got, c.water)
		}
		if got := impl.FillBySinking(c.h); !equalRows(got, c.water) {
			t.Errorf("%s: FillBySinking = %v, not %v", c.name, got, c.water)
		}
		if got := impl.DepthsOf(c.h); !equalRows(got, minus(c.water, c.h)) {
			t.Errorf("%s: DepthsOf = %v, not %v", c.name, got, minus(c.water, c.h))
		}
		if got := impl.LakesOf(c.h); !equalRows(got, c.lakes) {
			t.Errorf("%s: LakesOf = %v, not %v", c.name, got, c.lakes)
		}
		if got := impl.WaterOf(c.h); got != c.sum {
			t.Errorf("%s: WaterOf = %d, not %d", c.name, got, c.sum)
		}
		for i := range cellsOf(c.h) {
			if got := impl.SpillOf(c.h, i); got != heightAt(c.water, i) {
				t.Errorf("%s: SpillOf %d = %d, not %d", c.name, i, got, heightAt(c.water, i))
			}
		}
	}
}

func TestPromise7WaterFromTheEdgeInwardsIsWaterThatSinks(t *testing.T) {
	for _, h := range fillGrids() {
		filled := impl.FillByQueue(h)
		if want := filledByLevels(h); !equalRows(filled, want) {
			t.Fatalf("FillByQueue(%v) = %v, not %v", h, filled, want)
		}
		if sunk := impl.FillBySinking(h); !equalRows(filled, sunk) {
			t.Fatalf("FillByQueue(%v) = %v, but FillBySinking %v", h, filled, sunk)
		}
		for i := range cellsOf(h) {
			if heightAt(filled, i) < heightAt(h, i) {
				t.Fatalf("FillByQueue(%v) = %v is under the cell %d", h, filled, i)
			}
		}
		if again := impl.FillByQueue(filled); !equalRows(again, filled) {
			t.Fatalf("FillByQueue(%v) = %v, and filled again %v", h, filled, again)
		}
	}
}

func TestPromise8WaterStandsOnWhatItStandsOn(t *testing.T) {
	for _, h := range fillGrids() {
		sunk := impl.FillBySinking(h)
		if slices.Max(slices.Concat(h...)) < impl.MaxHeight {
			if got := impl.FillBySinking(raised(h)); !equalRows(got, raised(sunk)) {
				t.Fatalf("FillBySinking(%v) = %v, not 1 more than %v", raised(h), got, sunk)
			}
		}
		if got := impl.FillBySinking(turned(h)); !equalRows(got, turned(sunk)) {
			t.Fatalf("FillBySinking(%v) = %v, not %v turned", turned(h), got, sunk)
		}
	}
}

func TestPromise10TheEdgeIsDry(t *testing.T) {
	for _, h := range fillGrids() {
		depths := impl.DepthsOf(h)
		if want := minus(filledByLevels(h), h); !equalRows(depths, want) {
			t.Fatalf("DepthsOf(%v) = %v, not %v", h, depths, want)
		}
		if got := minus(impl.FillByQueue(h), depths); !equalRows(got, h) {
			t.Fatalf("DepthsOf(%v) = %v, with the heights not FillByQueue", h, depths)
		}
		for i := range cellsOf(h) {
			depth := heightAt(depths, i)
			if depth < 0 || depth > 0 && impl.OnEdge(h, i) {
				t.Fatalf("DepthsOf(%v): the cell %d has %d", h, i, depth)
			}
		}
	}
}

func TestPromise11WaterIsInLakes(t *testing.T) {
	for _, h := range fillGrids() {
		sum := impl.WaterOf(h)
		if want := sumOf(minus(filledByLevels(h), h)); sum != want {
			t.Fatalf("WaterOf(%v) = %d, not %d", h, sum, want)
		}
		depths := impl.DepthsOf(h)
		if sumOf(depths) != sum {
			t.Fatalf("WaterOf(%v) = %d, but DepthsOf %v", h, sum, depths)
		}
		held := 0
		filled := impl.FillByQueue(h)
		for _, lake := range impl.LakesOf(h) {
			for _, i := range lakeCells(h, filled, lake[0]) {
				held += lake[2] - heightAt(h, i)
			}
		}
		if held != sum {
			t.Fatalf("WaterOf(%v) = %d, but LakesOf %v hold %d", h, sum, impl.LakesOf(h), held)
		}
	}
}

func TestPromise12LakesHaveOneHeight(t *testing.T) {
	for _, h := range fillGrids() {
		lakes := impl.LakesOf(h)
		if want := lakesByLevels(h); !equalRows(lakes, want) {
			t.Fatalf("LakesOf(%v) = %v, not %v", h, lakes, want)
		}
		filled := impl.FillByQueue(h)
		for n, lake := range lakes {
			if lake[2] != heightAt(filled, lake[0]) || impl.OnEdge(h, lake[0]) {
				t.Fatalf("LakesOf(%v): %v is at the edge, or not of the height of %v", h, lake, filled)
			}
			if n > 0 && lakes[n-1][0] >= lake[0] {
				t.Fatalf("LakesOf(%v) = %v: not in the order of the first cells", h, lakes)
			}
		}
	}
}

func TestPromise64LakesHoldAllWater(t *testing.T) {
	for _, h := range fillGrids() {
		sum := 0
		lakes := impl.LakesOf(h)
		for _, lake := range lakes {
			sum += lake[1] * lake[2]
		}
		depths := impl.DepthsOf(h)
		for i := range cellsOf(h) {
			if heightAt(depths, i) > 0 {
				sum -= heightAt(h, i)
			}
		}
		if got := impl.WaterOf(h); got != sum {
			t.Fatalf("WaterOf(%v) = %d, but by LakesOf %v it is %d", h, got, lakes, sum)
		}
	}
}

func TestPromise69HigherGroundHoldsHigherWater(t *testing.T) {
	for _, h := range fillGrids() {
		before := impl.FillByQueue(h)
		for i := range cellsOf(h) {
			if heightAt(h, i) == impl.MaxHeight {
				continue
			}
			higher := cloneRows(h)
			higher[i/len(h[0])][i%len(h[0])]++
			after := impl.FillByQueue(higher)
			for k := range cellsOf(h) {
				if more := heightAt(after, k) - heightAt(before, k); more < 0 || more > 1 {
					t.Fatalf("FillByQueue(%v) = %v, and with the cell %d higher %v", h, before, i, after)
				}
			}
		}
	}
}

func TestSpillOfIsTheLeastHeightOfAWayToTheEdge(t *testing.T) {
	for _, h := range fillGrids() {
		want := filledByLevels(h)
		for i := range cellsOf(h) {
			if got := impl.SpillOf(h, i); got != heightAt(want, i) {
				t.Fatalf("SpillOf(%v, %d) = %d, not %d", h, i, got, heightAt(want, i))
			}
		}
	}
}

func TestSpillOfCellsThatAreNotInTheGrid(t *testing.T) {
	for _, h := range fillGrids() {
		for _, i := range badCells(h) {
			if got := impl.SpillOf(h, i); got != -1 {
				t.Fatalf("SpillOf(%v, %d) = %d, not -1", h, i, got)
			}
		}
	}
}

func TestNothingIsDeeperInGridsOfTwoRowsOrColumns(t *testing.T) {
	for _, h := range fillGrids() {
		if len(h) > 2 && len(h[0]) > 2 {
			continue
		}
		if !equalRows(impl.FillByQueue(h), h) || !equalRows(impl.FillBySinking(h), h) {
			t.Fatalf("%v: FillByQueue = %v, FillBySinking = %v", h, impl.FillByQueue(h), impl.FillBySinking(h))
		}
		if sumOf(impl.DepthsOf(h)) != 0 || impl.WaterOf(h) != 0 || len(impl.LakesOf(h)) != 0 {
			t.Fatalf("%v: DepthsOf = %v, WaterOf = %d, LakesOf = %v", h, impl.DepthsOf(h), impl.WaterOf(h), impl.LakesOf(h))
		}
	}
}

func TestRowsThatAreNoGridHoldNoWater(t *testing.T) {
	for what, h := range badGrids() {
		before := cloneRows(h)
		if got := impl.FillByQueue(h); len(got) != 0 {
			t.Errorf("%s: FillByQueue = %v", what, got)
		}
		if got := impl.FillBySinking(h); len(got) != 0 {
			t.Errorf("%s: FillBySinking = %v", what, got)
		}
		if got := impl.DepthsOf(h); len(got) != 0 {
			t.Errorf("%s: DepthsOf = %v", what, got)
		}
		if got := impl.LakesOf(h); len(got) != 0 {
			t.Errorf("%s: LakesOf = %v", what, got)
		}
		if got := impl.WaterOf(h); got != -1 {
			t.Errorf("%s: WaterOf = %d, not -1", what, got)
		}
		for _, i := range []int{-1, 0, 1, 30} {
			if got := impl.SpillOf(h, i); got != -1 {
				t.Errorf("%s: SpillOf %d = %d, not -1", what, i, got)
			}
		}
		if !equalRows(h, before) {
			t.Errorf("%s: changed to %v", what, h)
		}
	}
}

func TestResultsOfFilledGridsAreTheirOwn(t *testing.T) {
	checkGridToRows(t, "FillByQueue", impl.FillByQueue)
	checkGridToRows(t, "FillBySinking", impl.FillBySinking)
	checkGridToRows(t, "DepthsOf", impl.DepthsOf)
	checkGridToRows(t, "LakesOf", impl.LakesOf)
	for _, h := range fillGrids() {
		before := cloneRows(h)
		impl.WaterOf(h)
		impl.SpillOf(h, cellsOf(h)/2)
		if !equalRows(h, before) {
			t.Fatalf("WaterOf or SpillOf changed %v to %v", before, h)
		}
	}
}
