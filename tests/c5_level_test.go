package tests

import (
	"math"
	"slices"
	"testing"

	"loop.example/wateronheights/impl"
)

// atLevel is what the six functions return of a grid at a top.
type atLevel struct {
	top, lands, ponds, holes, counts, area, rim int
}

func levelsOf(h [][]int, top int) atLevel {
	return atLevel{top, impl.LandsAt(h, top), impl.PondsAt(h, top), impl.HolesAt(h, top),
		impl.CountsAt(h, top), impl.AreaAt(h, top), impl.RimAt(h, top)}
}

// levelCase is a grid with what is above some tops, written out.
type levelCase struct {
	name string
	h    [][]int
	want []atLevel
}

func levelCases() []levelCase {
	return slices.Concat(oneHeightCases(), rowLevelCases(), cornerCases(), holeCases())
}

func oneHeightCases() []levelCase {
	return []levelCase{
		{"one cell", [][]int{{7}}, []atLevel{{-1, 1, 0, 0, 1, 1, 4}, {6, 1, 0, 0, 1, 1, 4}, {7, 0, 1, 0, 0, 0, 0}, {12, 0, 1, 0, 0, 0, 0}}},
		{"one cell of height 0", [][]int{{0}}, []atLevel{{-1, 1, 0, 0, 1, 1, 4}, {0, 0, 1, 0, 0, 0, 0}, {12, 0, 1, 0, 0, 0, 0}}},
		{"one cell of the greatest height", [][]int{{12}}, []atLevel{{-1, 1, 0, 0, 1, 1, 4}, {11, 1, 0, 0, 1, 1, 4}, {12, 0, 1, 0, 0, 0, 0}}},
		{"one row of one height", [][]int{{4, 4, 4, 4, 4}}, []atLevel{{-1, 1, 0, 0, 1, 5, 12}, {3, 1, 0, 0, 1, 5, 12}, {4, 0, 1, 0, 0, 0, 0}}},
		{"one column of one height", [][]int{{4}, {4}, {4}}, []atLevel{{-1, 1, 0, 0, 1, 3, 8}, {3, 1, 0, 0, 1, 3, 8}, {4, 0, 1, 0, 0, 0, 0}}},
		{"two rows of one height", constantRows(2, 5, 3), []atLevel{{-1, 1, 0, 0, 1, 10, 14}, {2, 1, 0, 0, 1, 10, 14}, {3, 0, 1, 0, 0, 0, 0}}},
		{"all of height 0", constantRows(5, 5, 0), []atLevel{{-1, 1, 0, 0, 1, 25, 20}, {0, 0, 1, 0, 0, 0, 0}, {12, 0, 1, 0, 0, 0, 0}}},
		{"all of the greatest height", constantRows(5, 5, 12), []atLevel{{-1, 1, 0, 0, 1, 25, 20}, {11, 1, 0, 0, 1, 25, 20}, {12, 0, 1, 0, 0, 0, 0}}},
	}
}

func rowLevelCases() []levelCase {
	return []levelCase{
		{"one row", [][]int{{1, 3, 0, 5, 2}},
			[]atLevel{{-1, 1, 0, 0, 1, 5, 12}, {0, 2, 1, 0, 2, 4, 12}, {1, 2, 2, 0, 2, 3, 10}, {2, 2, 3, 0, 2, 2, 8}, {3, 1, 2, 0, 1, 1, 4}, {5, 0, 1, 0, 0, 0, 0}}},
		{"one column", [][]int{{2}, {0}, {2}, {0}, {2}},
			[]atLevel{{-1, 1, 0, 0, 1, 5, 12}, {0, 3, 2, 0, 3, 3, 12}, {1, 3, 2, 0, 3, 3, 12}, {2, 0, 1, 0, 0, 0, 0}}},
		{"two rows with a low cell between high ones", [][]int{{1, 1, 1}, {1, 0, 1}},
			[]atLevel{{-1, 1, 0, 0, 1, 6, 10}, {0, 1, 1, 0, 1, 5, 12}, {1, 0, 1, 0, 0, 0, 0}}},
		{"two columns with low cells across", [][]int{{3, 3}, {0, 0}, {3, 2}, {0, 1}},
			[]atLevel{{0, 2, 2, 0, 2, 5, 14}, {1, 2, 2, 0, 2, 4, 12}, {2, 2, 1, 0, 2, 3, 10}}},
		{"a slope", [][]int{{0, 1, 2}, {1, 2, 3}, {2, 3, 4}},
			[]atLevel{{0, 1, 1, 0, 1, 8, 12}, {1, 1, 1, 0, 1, 6, 12}, {2, 1, 1, 0, 1, 3, 8}, {3, 1, 1, 0, 1, 1, 4}}},
	}
}

func cornerCases() []levelCase {
	return []levelCase{
		{"two cells that touch at corners", [][]int{{1, 0}, {0, 1}}, []atLevel{{0, 2, 1, 0, 2, 2, 8}}},
		{"two cells that touch at corners the other way", [][]int{{0, 1}, {1, 0}}, []atLevel{{0, 2, 1, 0, 2, 2, 8}}},
		{"a board", [][]int{{1, 0, 1}, {0, 1, 0}, {1, 0, 1}}, []atLevel{{0, 5, 1, 0, 5, 5, 20}}},
		{"a board the other way, with a low cell inside that touches the edge at no side", [][]int{{0, 1, 0}, {1, 0, 1}, {0, 1, 0}},
			[]atLevel{{0, 4, 1, 0, 4, 4, 16}}},
		{"a low cell inside that touches one at the edge at a corner", [][]int{{1, 1, 1}, {1, 0, 1}, {1, 1, 0}},
			[]atLevel{{0, 1, 1, 0, 1, 7, 16}}},
		{"two low cells inside that touch at corners", [][]int{{1, 1, 1, 1}, {1, 0, 1, 1}, {1, 1, 0, 1}, {1, 1, 1, 1}},
			[]atLevel{{0, 1, 1, 1, 0, 14, 24}}},
		{"two low cells inside that touch at corners the other way", [][]int{{1, 1, 1, 1}, {1, 1, 0, 1}, {1, 0, 1, 1}, {1, 1, 1, 1}},
			[]atLevel{{0, 1, 1, 1, 0, 14, 24}}},
		{"an island inside that touches the shore at a corner", [][]int{{1, 1, 1, 1}, {1, 1, 0, 1}, {1, 0, 1, 0}, {1, 1, 0, 0}},
			[]atLevel{{0, 2, 1, 0, 2, 11, 24}}},
		{"rows that end where the next ones begin", [][]int{{0, 0, 1}, {1, 0, 0}, {0, 0, 1}}, []atLevel{{0, 3, 1, 0, 3, 3, 12}}},
		{"low rows that end where the next ones begin", [][]int{{1, 1, 0}, {0, 1, 1}, {1, 1, 1}}, []atLevel{{0, 1, 2, 0, 1, 7, 14}}},
	}
}

func holeCases() []levelCase {
	return []levelCase{
		{"a ring", [][]int{{2, 2, 2}, {2, 0, 2}, {2, 2, 2}},
			[]atLevel{{-1, 1, 0, 0, 1, 9, 12}, {0, 1, 1, 1, 0, 8, 16}, {1, 1, 1, 1, 0, 8, 16}, {2, 0, 1, 0, 0, 0, 0}}},
		{"a bowl", [][]int{{5, 5, 5}, {5, 1, 5}, {5, 4, 5}},
			[]atLevel{{0, 1, 0, 0, 1, 9, 12}, {1, 1, 1, 1, 0, 8, 16}, {3, 1, 1, 1, 0, 8, 16}, {4, 1, 1, 0, 1, 7, 16}, {5, 0, 1, 0, 0, 0, 0}}},
		{"an island in a hole", [][]int{{1, 1, 1, 1, 1}, {1, 0, 0, 0, 1}, {1, 0, 1, 0, 1}, {1, 0, 0, 0, 1}, {1, 1, 1, 1, 1}},
			[]atLevel{{0, 2, 1, 1, 1, 17, 36}}},
		{"two holes of two heights", [][]int{{9, 9, 9, 9, 9}, {9, 1, 8, 3, 9}, {9, 9, 9, 9, 9}},
			[]atLevel{{0, 1, 0, 0, 1, 15, 16}, {1, 1, 1, 1, 0, 14, 20}, {3, 1, 2, 2, -1, 13, 24}, {8, 1, 1, 1, 0, 12, 24}, {9, 0, 1, 0, 0, 0, 0}}},
		{"four holes at corners around a middle", [][]int{{1, 1, 1, 1, 1}, {1, 0, 1, 0, 1}, {1, 1, 1, 1, 1}, {1, 0, 1, 0, 1}, {1, 1, 1, 1, 1}},
			[]atLevel{{0, 1, 4, 4, -3, 21, 36}}},
		{"a hole, and low cells at the edge", [][]int{{0, 1, 1, 1, 0}, {1, 1, 0, 1, 1}, {0, 1, 1, 1, 0}},
			[]atLevel{{0, 1, 5, 1, 0, 10, 20}}},
		{"a low middle that is open at one side", [][]int{{1, 1, 1, 1}, {1, 0, 0, 0}, {1, 1, 1, 1}},
			[]atLevel{{0, 1, 1, 0, 1, 9, 20}}},
	}
}

// levelGrids returns the grids of the filled pits, those written out here, all of two heights with few cells inside,
// and for each shape with more of them some of two or three heights, on which there are many pieces.
func levelGrids() [][][]int {
	grids := slices.Concat(fillGrids(), everyGrid(3, 3, 2), everyGrid(3, 4, 2), everyGrid(4, 3, 2))
	for _, c := range levelCases() {
		grids = append(grids, c.h)
	}
	mixed := mixer(5)
	for r := 3; r <= impl.MaxSide; r++ {
		for c := 3; c <= impl.MaxSide; c++ {
			for n := range 120 {
				grids = append(grids, gridOf(r, c, func() int { return min(mixed(2+n%4), 2) }))
			}
		}
	}
	return grids
}

// forEachLevel checks each of the grids at each top, until one is wrong.
func forEachLevel(t *testing.T, check func(h [][]int, top int) bool) {
	t.Helper()
	for _, h := range levelGrids() {
		for top := -1; top <= impl.MaxHeight; top++ {
			if !check(h, top) {
				t.Fatalf("%v: %+v", h, levelsOf(h, top))
			}
		}
	}
}

// apart returns how many rows and how many columns two cells are apart.
func apart(h [][]int, i, k int) (int, int) {
	columns := len(h[0])
	rows, across := i/columns-k/columns, i%columns-k%columns
	return max(rows, -rows), max(across, -across)
}

func haveASideInCommon(h [][]int, i, k int) bool {
	rows, across := apart(h, i, k)
	return rows+across == 1
}

func haveASideOrACornerInCommon(h [][]int, i, k int) bool {
	rows, across := apart(h, i, k)
	return max(rows, across) == 1
}

// piecesByMerging returns the pieces of the cells of which a rule holds: each cell puts those near it together.
func piecesByMerging(h [][]int, near func([][]int, int, int) bool, holds func(int) bool) [][]int {
	var pieces [][]int
	for i := range cellsOf(h) {
		if !holds(i) {
			continue
		}
		own := []int{i}
		var others [][]int
		for _, piece := range pieces {
			if slices.ContainsFunc(piece, func(k int) bool { return near(h, i, k) }) {
				own = append(own, piece...)
			} else {
				others = append(others, piece)
			}
		}
		pieces = append(others, own)
	}
	return pieces
}

func landsByMerging(h [][]int, top int) [][]int {
	return piecesByMerging(h, haveASideInCommon, func(i int) bool { return heightAt(h, i) > top })
}

func pondsByMerging(h [][]int, top int) [][]int {
	return piecesByMerging(h, haveASideOrACornerInCommon, func(i int) bool { return heightAt(h, i) <= top })
}

func holesByMerging(h [][]int, top int) [][]int {
	return slices.DeleteFunc(pondsByMerging(h, top), func(pond []int) bool {
		return slices.ContainsFunc(pond, func(i int) bool { return slices.Contains(edgeCells(h), i) })
	})
}

// areaByRows counts the heights above a top.
func areaByRows(h [][]int, top int) int {
	area := 0
	for _, height := range slices.Concat(h...) {
		if height > top {
			area++
		}
	}
	return area
}

// rimByLines counts how often one goes up or down between above the top and not, along each row and each column.
func rimByLines(h [][]int, top int) int {
	sides := 0
	for _, line := range slices.Concat(h, turned(h)) {
		above := false
		for _, height := range append(slices.Clone(line), top) {
			if (height > top) != above {
				above = !above
				sides++
			}
		}
	}
	return sides
}

// fallsBeside returns how much cells beside each other differ, all of them together.
func fallsBeside(h [][]int) int {
	sum := 0
	for _, line := range slices.Concat(h, turned(h)) {
		for n := 1; n < len(line); n++ {
			sum += max(line[n]-line[n-1], line[n-1]-line[n])
		}
	}
	return sum
}

// edgeSides returns the heights at the edge together, each one as often as it has a side there.
func edgeSides(h [][]int) int {
	sum := 0
	for _, line := range slices.Concat(h, turned(h)) {
		sum += line[0] + line[len(line)-1]
	}
	return sum
}

// leastBeside returns the lesser heights of cells beside each other together.
func leastBeside(h [][]int) int {
	sum := 0
	for _, line := range slices.Concat(h, turned(h)) {
		for n := 1; n < len(line); n++ {
			sum += min(line[n-1], line[n])
		}
	}
	return sum
}

// leastOfSquares returns the least heights of squares of four cells together.
func leastOfSquares(h [][]int) int {
	sum := 0
	for r := 1; r < len(h); r++ {
		for c := 1; c < len(h[0]); c++ {
			sum += min(h[r-1][c-1], h[r-1][c], h[r][c-1], h[r][c])
		}
	}
	return sum
}

// overAllHeights returns what is told of all heights from 0 up together.
func overAllHeights(h [][]int, tell func([][]int, int) int) int {
	sum := 0
	for top := range impl.MaxHeight + 1 {
		sum += tell(h, top)
	}
	return sum
}

func TestLevelsThatAreWrittenOut(t *testing.T) {
	for _, c := range levelCases() {
		for _, want := range c.want {
			if got := levelsOf(c.h, want.top); got != want {
				t.Errorf("%s: %+v, not %+v", c.name, got, want)
			}
			if got := levelsOf(turned(c.h), want.top); got != want {
				t.Errorf("%s, turned: %+v, not %+v", c.name, got, want)
			}
		}
	}
}

func TestPromise23TheLeastJoinsAreToldByLevels(t *testing.T) {
	for _, h := range levelGrids() {
		down := upsideDown(h)
		sum := 0
		for level := range impl.MaxHeight + 1 {
			// Upside down, cells up to the level are those above this top.
			top := impl.MaxHeight - level - 1
			sum += cellsOf(h) - 1 - impl.AreaAt(down, top) + impl.LandsAt(down, top)
		}
		if got := impl.SpanOf(h); got != sum {
			t.Fatalf("SpanOf(%v) = %d, but by levels %d", h, got, sum)
		}
	}
}

func TestPromise24LandsLessHolesAreCounted(t *testing.T) {
	forEachLevel(t, func(h [][]int, top int) bool {
		lands, holes, counts := impl.LandsAt(h, top), impl.HolesAt(h, top), impl.CountsAt(h, top)
		return lands-holes == counts && lands == len(landsByMerging(h, top)) && holes == len(holesByMerging(h, top))
	})
}

func TestPromise25PondsAreMoreThanHoles(t *testing.T) {
	forEachLevel(t, func(h [][]int, top int) bool {
		ponds := impl.PondsAt(h, top)
		if slices.Min(slices.Concat(h...)) > top && ponds != 0 {
			return false
		}
		return ponds >= impl.HolesAt(h, top) && ponds == len(pondsByMerging(h, top))
	})
}

func TestPromise26HolesAreInside(t *testing.T) {
	forEachLevel(t, func(h [][]int, top int) bool {
		holes := impl.HolesAt(h, top)
		if min(len(h), len(h[0])) <= 2 && holes != 0 {
			return false
		}
		return holes == impl.HolesAt(turned(h), top)
	})
}

func TestPromise27AllIsOnePiece(t *testing.T) {
	forEachLevel(t, func(h [][]int, top int) bool {
		heights := slices.Concat(h...)
		counts := impl.CountsAt(h, top)
		if top < slices.Min(heights) && counts != 1 || top >= slices.Max(heights) && counts != 0 {
			return false
		}
		return counts == impl.CountsAt(turned(h), top)
	})
}

func TestPromise28AreasAreHeights(t *testing.T) {
	forEachLevel(t, func(h [][]int, top int) bool {
		area := impl.AreaAt(h, top)
		if top > -1 && area > impl.AreaAt(h, top-1) {
			return false
		}
		return area == areaByRows(h, top)
	})
	for _, h := range levelGrids() {
		if got, want := overAllHeights(h, impl.AreaAt), sumOf(h); got != want {
			t.Fatalf("AreaAt(%v) of all heights is %d, not %d", h, got, want)
		}
	}
}

func TestPromise29RimsAreLongEnough(t *testing.T) {
	forEachLevel(t, func(h [][]int, top int) bool {
		rim, area := impl.RimAt(h, top), impl.AreaAt(h, top)
		return rim%2 == 0 && rim <= 4*area && rim*rim >= 16*area && rim == rimByLines(h, top)
	})
}

func TestPromise71RimsAreAllSides(t *testing.T) {
	for _, h := range levelGrids() {
		if got, want := overAllHeights(h, impl.RimAt), edgeSides(h)+fallsBeside(h); got != want {
			t.Fatalf("RimAt(%v) of all heights is %d, not %d", h, got, want)
		}
	}
}

func TestPromise72CountsAreAllHeights(t *testing.T) {
	for _, h := range levelGrids() {
		if got, want := overAllHeights(h, impl.CountsAt), sumOf(h)-leastBeside(h)+leastOfSquares(h); got != want {
			t.Fatalf("CountsAt(%v) of all heights is %d, not %d", h, got, want)
		}
	}
}

func TestPromise73EachPieceOfLandHasAPeak(t *testing.T) {
	forEachLevel(t, func(h [][]int, top int) bool {
		higher := 0
		for _, peak := range impl.PeaksOf(h) {
			if heightAt(h, peak) > top {
				higher++
			}
		}
		return impl.LandsAt(h, top) <= higher
	})
}

func TestAllOrNothingIsAboveTheOutermostTops(t *testing.T) {
	for _, h := range levelGrids() {
		r, c := len(h), len(h[0])
		if got, want := levelsOf(h, -1), (atLevel{-1, 1, 0, 0, 1, r * c, 2 * (r + c)}); got != want {
			t.Fatalf("%v: %+v, not %+v", h, got, want)
		}
		if got, want := levelsOf(h, impl.MaxHeight), (atLevel{impl.MaxHeight, 0, 1, 0, 0, 0, 0}); got != want {
			t.Fatalf("%v: %+v, not %+v", h, got, want)
		}
	}
}

// notLevels is what the six functions return for arguments that are not valid.
func notLevels(top int) atLevel {
	return atLevel{top, -1, -1, -1, 0, -1, -1}
}

func badTops() []int {
	return []int{-2, impl.MaxHeight + 1, -impl.MaxHeight, 100, math.MinInt, math.MaxInt}
}

func TestThereAreNoLevelsOfRowsThatAreNoGrid(t *testing.T) {
	for what, h := range badGrids() {
		before := cloneRows(h)
		for _, top := range append(badTops(), -1, 0, 1, impl.MaxHeight) {
			if got, want := levelsOf(h, top), notLevels(top); got != want {
				t.Errorf("%s: %+v, not %+v", what, got, want)
			}
		}
		if !equalRows(h, before) {
			t.Errorf("%s: changed to %v", what, h)
		}
	}
}

func TestThereAreNoLevelsAtOtherTops(t *testing.T) {
	for _, h := range levelGrids() {
		for _, top := range badTops() {
			if got, want := levelsOf(h, top), notLevels(top); got != want {
				t.Fatalf("%v: %+v, not %+v", h, got, want)
			}
		}
	}
}

func TestLevelsKeepTheirGrid(t *testing.T) {
	for _, h := range levelGrids() {
		before := cloneRows(h)
		for top := -1; top <= impl.MaxHeight; top++ {
			levelsOf(h, top)
		}
		if !equalRows(h, before) {
			t.Fatalf("%v is changed to %v", before, h)
		}
	}
}
