package tests

import (
	"fmt"
	"math"
	"math/bits"
	"slices"
	"strconv"
	"strings"
	"testing"

	"loop.example/wateronheights/impl"
)

// quadCase is a grid with its sums, its pyramid behind itself, and its text by quarters, written out.
type quadCase struct {
	name    string
	h, sums [][]int
	smaller [][][]int
	text    string
}

func quadCases() []quadCase {
	return slices.Concat(oneCellQuadCases(), rowQuadCases(), columnQuadCases(), oddQuadCases(), squareQuadCases(), largestQuadCases())
}

func oneCellQuadCases() []quadCase {
	return []quadCase{
		{"one cell", [][]int{{7}}, [][]int{{0, 0}, {0, 7}}, nil, "7;"},
		{"one cell of height 0", [][]int{{0}}, [][]int{{0, 0}, {0, 0}}, nil, "0;"},
		{"one cell of the greatest height", [][]int{{12}}, [][]int{{0, 0}, {0, 12}}, nil, "12;"},
	}
}

func rowQuadCases() []quadCase {
	return []quadCase{
		{"a row of two", [][]int{{1, 2}}, [][]int{{0, 0, 0}, {0, 1, 3}}, [][][]int{{{3}}}, "(1;2;..)"},
		{"a row of one height", [][]int{{4, 4}}, [][]int{{0, 0, 0}, {0, 4, 8}}, [][][]int{{{8}}}, "4;"},
		{"a row of three", [][]int{{1, 2, 3}}, [][]int{{0, 0, 0, 0}, {0, 1, 3, 6}}, [][][]int{{{3, 3}}, {{6}}}, "((1;2;..)3;..)"},
		{"a row with one height on the left", [][]int{{4, 4, 9}}, [][]int{{0, 0, 0, 0}, {0, 4, 8, 17}}, [][][]int{{{8, 9}}, {{17}}}, "(4;9;..)"},
		{"a row with one height on the right", [][]int{{4, 9, 9}}, [][]int{{0, 0, 0, 0}, {0, 4, 13, 22}}, [][][]int{{{13, 9}}, {{22}}}, "((4;9;..)9;..)"},
		{"a row of four, of two digits", [][]int{{10, 11, 10, 11}},
			[][]int{{0, 0, 0, 0, 0}, {0, 10, 21, 31, 42}}, [][][]int{{{21, 21}}, {{42}}}, "((10;11;..)(10;11;..)..)"},
		{"the longest row", [][]int{{1, 2, 3, 4, 5}},
			[][]int{{0, 0, 0, 0, 0, 0}, {0, 1, 3, 6, 10, 15}}, [][][]int{{{3, 7, 5}}, {{10, 5}}, {{15}}}, "(((1;2;..)3;..)(4;5;..)..)"},
	}
}

func columnQuadCases() []quadCase {
	return []quadCase{
		{"a column of two", [][]int{{1}, {2}}, [][]int{{0, 0}, {0, 1}, {0, 3}}, [][][]int{{{3}}}, "(1;.2;.)"},
		{"a column of three", [][]int{{4}, {9}, {9}}, [][]int{{0, 0}, {0, 4}, {0, 13}, {0, 22}}, [][][]int{{{13}, {9}}, {{22}}}, "((4;.9;.).9;.)"},
		{"a column of four", [][]int{{0}, {0}, {12}, {12}},
			[][]int{{0, 0}, {0, 0}, {0, 0}, {0, 12}, {0, 24}}, [][][]int{{{0}, {24}}, {{24}}}, "(0;.12;.)"},
		{"the longest column", [][]int{{1}, {1}, {1}, {2}, {3}},
			[][]int{{0, 0}, {0, 1}, {0, 2}, {0, 3}, {0, 5}, {0, 8}}, [][][]int{{{2}, {3}, {3}}, {{5}, {3}}, {{8}}}, "(1;.(2;.3;.).)"},
	}
}

func oddQuadCases() []quadCase {
	return []quadCase{
		{"two rows of three", [][]int{{1, 1, 2}, {1, 1, 2}}, [][]int{{0, 0, 0, 0}, {0, 1, 2, 4}, {0, 2, 4, 8}}, [][][]int{{{4, 4}}, {{8}}}, "(1;2;1;2;)"},
		{"two columns of three", [][]int{{1, 2}, {3, 4}, {5, 6}},
			[][]int{{0, 0, 0}, {0, 1, 3}, {0, 4, 10}, {0, 9, 21}}, [][][]int{{{10}, {11}}, {{21}}}, "((1;.3;.)(2;.4;.)5;6;)"},
		{"a bowl", [][]int{{5, 5, 5}, {5, 1, 5}, {5, 4, 5}},
			[][]int{{0, 0, 0, 0}, {0, 5, 10, 15}, {0, 10, 16, 26}, {0, 15, 25, 40}}, [][][]int{{{16, 10}, {9, 5}}, {{40}}}, "((5;5;5;1;)5;(5;4;..)5;)"},
		{"two columns of five", [][]int{{3, 3}, {3, 3}, {3, 3}, {0, 12}, {0, 12}},
			[][]int{{0, 0, 0}, {0, 3, 6}, {0, 6, 12}, {0, 9, 18}, {0, 9, 30}, {0, 9, 42}}, [][][]int{{{12}, {18}, {12}}, {{30}, {12}}, {{42}}}, "(3;3;0;12;)"},
		{"four rows of five", [][]int{{9, 9, 9, 9, 0}, {9, 9, 9, 9, 0}, {9, 9, 9, 9, 0}, {0, 0, 0, 0, 0}},
			[][]int{{0, 0, 0, 0, 0, 0}, {0, 9, 18, 27, 36, 36}, {0, 18, 36, 54, 72, 72}, {0, 27, 54, 81, 108, 108}, {0, 27, 54, 81, 108, 108}},
			[][][]int{{{36, 36, 0}, {18, 18, 0}}, {{108, 0}}, {{108}}}, "(9;(9;0;9;0;)(9;9;0;0;)(9;0;0;0;))"},
	}
}

func squareQuadCases() []quadCase {
	return []quadCase{
		{"four cells", [][]int{{1, 2}, {3, 4}}, [][]int{{0, 0, 0}, {0, 1, 3}, {0, 4, 10}}, [][][]int{{{10}}}, "(1;2;3;4;)"},
		{"four cells, but one of one height", [][]int{{1, 1}, {1, 2}}, [][]int{{0, 0, 0}, {0, 1, 2}, {0, 2, 5}}, [][][]int{{{5}}}, "(1;1;1;2;)"},
		{"four cells of one height", [][]int{{7, 7}, {7, 7}}, [][]int{{0, 0, 0}, {0, 7, 14}, {0, 14, 28}}, [][][]int{{{28}}}, "7;"},
		{"four rows of four", [][]int{{0, 0, 1, 1}, {0, 0, 1, 1}, {2, 2, 3, 3}, {2, 2, 3, 4}},
			[][]int{{0, 0, 0, 0, 0}, {0, 0, 0, 1, 2}, {0, 0, 0, 2, 4}, {0, 2, 4, 9, 14}, {0, 4, 8, 16, 25}},
			[][][]int{{{0, 4}, {8, 13}}, {{25}}}, "(0;1;2;(3;3;3;4;))"},
		{"two rows of four", [][]int{{1, 0, 0, 0}, {0, 0, 0, 0}},
			[][]int{{0, 0, 0, 0, 0}, {0, 1, 1, 1, 1}, {0, 1, 1, 1, 1}}, [][][]int{{{1, 0}}, {{1}}}, "((1;0;..)0;0;0;)"},
	}
}

func largestQuadCases() []quadCase {
	return []quadCase{
		{"the largest grid, from corner to corner", [][]int{{1, 0, 0, 0, 0}, {0, 1, 0, 0, 0}, {0, 0, 1, 0, 0}, {0, 0, 0, 1, 0}, {0, 0, 0, 0, 1}},
			[][]int{{0, 0, 0, 0, 0, 0}, {0, 1, 1, 1, 1, 1}, {0, 1, 2, 2, 2, 2}, {0, 1, 2, 3, 3, 3}, {0, 1, 2, 3, 4, 4}, {0, 1, 2, 3, 4, 5}},
			[][][]int{{{2, 0, 0}, {0, 2, 0}, {0, 0, 1}}, {{4, 0}, {0, 1}}, {{5}}}, "(((1;0;0;1;)0;0;1;)0;0;(1;0;0;1;))"},
		{"the largest and highest grid", constantRows(5, 5, 12),
			[][]int{{0, 0, 0, 0, 0, 0}, {0, 12, 24, 36, 48, 60}, {0, 24, 48, 72, 96, 120}, {0, 36, 72, 108, 144, 180}, {0, 48, 96, 144, 192, 240}, {0, 60, 120, 180, 240, 300}},
			[][][]int{{{48, 48, 24}, {48, 48, 24}, {24, 24, 12}}, {{192, 48}, {48, 12}}, {{300}}}, "12;"},
		{"the largest grid of no height", constantRows(5, 5, 0), constantRows(6, 6, 0),
			[][][]int{constantRows(3, 3, 0), constantRows(2, 2, 0), {{0}}}, "0;"},
	}
}

// greatCase is a grid with the greatest sum of a part when each height is so much less, written out.
type greatCase struct {
	name           string
	h              [][]int
	less, greatest int
}

func greatCases() []greatCase {
	hill, ends := [][]int{{1, 5, 1}, {5, 12, 5}, {1, 5, 1}}, [][]int{{12, 0, 12}}
	return []greatCase{
		{"one cell", [][]int{{7}}, 0, 7},
		{"one cell, 1 higher", [][]int{{7}}, 6, 1},
		{"one cell, as high", [][]int{{7}}, 7, 0},
		{"one cell, lower", [][]int{{7}}, 12, 0},
		{"one cell of height 0", [][]int{{0}}, 0, 0},
		{"one cell of the greatest height", [][]int{{12}}, 11, 1},
		{"one cell of the greatest height, as high", [][]int{{12}}, 12, 0},
		{"all of a row", [][]int{{5, 1, 5}}, 1, 8},
		{"all of a row with a lower middle", [][]int{{5, 1, 5}}, 2, 5},
		{"one end of a row", [][]int{{5, 1, 5}}, 3, 2},
		{"no part of a row", [][]int{{5, 1, 5}}, 5, 0},
		{"all of a column", [][]int{{5}, {1}, {5}}, 2, 5},
		{"one end of a column", [][]int{{5}, {1}, {5}}, 3, 2},
		{"both ends", ends, 5, 9},
		{"both ends, or one", ends, 6, 6},
		{"the top of a hill", hill, 7, 5},
		{"a row over a hill", hill, 4, 10},
		{"all of a hill", hill, 1, 27},
		{"a corner of four cells", [][]int{{0, 0, 0}, {0, 9, 9}, {0, 9, 9}}, 5, 16},
		{"the beginning", [][]int{{9, 0}, {0, 0}}, 5, 4},
		{"a column of two rows", [][]int{{0, 3, 9}, {0, 2, 8}}, 4, 9},
		{"all of two columns at the edge", [][]int{{9, 0, 0, 9}, {9, 0, 0, 9}}, 4, 10},
		{"the largest grid, less nothing", constantRows(5, 5, 12), 0, 300},
		{"the largest grid, less nearly all", constantRows(5, 5, 12), 11, 25},
		{"the largest grid, less all", constantRows(5, 5, 12), 12, 0},
		{"the largest grid of no height", constantRows(5, 5, 0), 0, 0},
		{"the largest grid of no height, less", constantRows(5, 5, 0), 1, 0},
	}
}

// rectangle is where a part of a grid begins and ends.
type rectangle struct{ top, left, bottom, right int }

func sumIn(h [][]int, p rectangle) int { return impl.SumIn(h, p.top, p.left, p.bottom, p.right) }

// rectanglesOf returns all parts of a grid, those without cells among them.
func rectanglesOf(h [][]int) []rectangle {
	var parts []rectangle
	for top := 0; top <= len(h); top++ {
		for left := 0; left <= len(h[0]); left++ {
			for bottom := top; bottom <= len(h); bottom++ {
				for right := left; right <= len(h[0]); right++ {
					parts = append(parts, rectangle{top, left, bottom, right})
				}
			}
		}
	}
	return parts
}

func (p rectangle) cells() int { return (p.bottom - p.top) * (p.right - p.left) }

// sumByCells is SumIn told cell by cell of the grid.
func sumByCells(h [][]int, p rectangle) int {
	sum := 0
	for i := range cellsOf(h) {
		if r, c := i/len(h[0]), i%len(h[0]); r >= p.top && r < p.bottom && c >= p.left && c < p.right {
			sum += h[r][c]
		}
	}
	return sum
}

// greatestByRuns is GreatestPart told for rows side by side by one pass over their columns, where a part goes on while it is worth it.
func greatestByRuns(h [][]int, less int) int {
	greatest := 0
	for top := range h {
		columns := make([]int, len(h[0]))
		for _, row := range h[top:] {
			run := 0
			for c, height := range row {
				columns[c] += height - less
				run = max(run, 0) + columns[c]
				greatest = max(greatest, run)
			}
		}
	}
	return greatest
}

// pyramidBySquares is PyramidOf told by the sums of squares of one cell, of two rows and columns, of four, and so on.
func pyramidBySquares(h [][]int) [][][]int {
	var pyramid [][][]int
	for side := 1; ; side *= 2 {
		rows, columns := (len(h)+side-1)/side, (len(h[0])+side-1)/side
		i := -1
		pyramid = append(pyramid, gridOf(rows, columns, func() int {
			i++
			r, c := i/columns*side, i%columns*side
			return sumByCells(h, rectangle{r, c, r + side, c + side})
		}))
		if rows*columns == 1 {
			return pyramid
		}
	}
}

func equalPyramids(a, b [][][]int) bool { return slices.EqualFunc(a, b, equalRows) }

// cutOut returns rows and columns of a grid as one of its own.
func cutOut(h [][]int, p rectangle) [][]int {
	var cut [][]int
	for _, row := range h[p.top:p.bottom] {
		cut = append(cut, slices.Clone(row[p.left:p.right]))
	}
	return cut
}

// textByCuts is QuadOf told by cutting the grid to pieces.
func textByCuts(h [][]int) string {
	if len(h) == 0 || len(h[0]) == 0 {
		return "."
	}
	if isFlat(h) {
		return fmt.Sprintf("%d;", h[0][0])
	}
	rows, columns := len(h), len(h[0])
	r, c := (rows+1)/2, (columns+1)/2
	return "(" + textByCuts(cutOut(h, rectangle{0, 0, r, c})) + textByCuts(cutOut(h, rectangle{0, c, r, columns})) +
		textByCuts(cutOut(h, rectangle{r, 0, rows, c})) + textByCuts(cutOut(h, rectangle{r, c, rows, columns})) + ")"
}

func isFlat(h [][]int) bool {
	heights := slices.Concat(h...)
	return slices.Min(heights) == slices.Max(heights)
}

// readStrictly is ReadQuad told from the beginning of a text on, with a check of each rule where it applies.
func readStrictly(s string, r, c int) ([][]int, bool) {
	h, rest, right := partRead(s, r, c)
	return h, right && rest == ""
}

// partRead returns the part of so many rows and columns that a text begins with, and the rest of it.
func partRead(s string, r, c int) (h [][]int, rest string, right bool) {
	if r*c == 0 {
		rest, right = strings.CutPrefix(s, ".")
		return constantRows(r, c, 0), rest, right
	}
	if quarters, opened := strings.CutPrefix(s, "("); opened {
		return quartersRead(quarters, r, c)
	}
	number, rest, right := strings.Cut(s, ";")
	for height := range impl.MaxHeight + 1 {
		if right && number == strconv.Itoa(height) {
			return constantRows(r, c, height), rest, true
		}
	}
	return nil, "", false
}

// quartersRead returns what follows the opening bracket of a part of so many rows and columns, and the rest of the text.
func quartersRead(s string, r, c int) (h [][]int, rest string, right bool) {
	if r*c == 1 {
		return nil, "", false
	}
	rest = s
	for _, rows := range []int{r - r/2, r / 2} {
		beside := make([][]int, rows)
		for _, columns := range []int{c - c/2, c / 2} {
			var quarter [][]int
			if quarter, rest, right = partRead(rest, rows, columns); !right {
				return nil, "", false
			}
			for k := range beside {
				beside[k] = append(beside[k], quarter[k]...)
			}
		}
		h = append(h, beside...)
	}
	rest, right = strings.CutPrefix(rest, ")")
	return h, rest, right && !isFlat(h)
}

// gridsOfFlats returns grids of one size with quarters, and quarters of these, some of which are of one height.
func gridsOfFlats(r, c int) [][][]int {
	mixed := mixer(uint64(110 + 10*r + c))
	var grids [][][]int
	for n := range 40 {
		heights := []int{mixed(13), mixed(13), mixed(13)}[:2+n%2]
		h := constantRows(r, c, 0)
		var fill func(p rectangle)
		fill = func(p rectangle) {
			if p.cells() == 0 {
				return
			}
			if p.cells() == 1 || mixed(3) == 0 {
				setRectangle(h, p, heights[mixed(len(heights))])
				return
			}
			row, column := p.bottom-(p.bottom-p.top)/2, p.right-(p.right-p.left)/2
			fill(rectangle{p.top, p.left, row, column})
			fill(rectangle{p.top, column, row, p.right})
			fill(rectangle{row, p.left, p.bottom, column})
			fill(rectangle{row, column, p.bottom, p.right})
		}
		fill(rectangle{0, 0, r, c})
		grids = append(grids, h)
	}
	return grids
}

func setRectangle(h [][]int, p rectangle, height int) {
	for r := p.top; r < p.bottom; r++ {
		for c := p.left; c < p.right; c++ {
			h[r][c] = height
		}
	}
}

// gridSizes returns the sizes of all grids, each one as its rows and columns.
func gridSizes() [][2]int {
	var sizes [][2]int
	for r := 1; r <= impl.MaxSide; r++ {
		for c := 1; c <= impl.MaxSide; c++ {
			sizes = append(sizes, [2]int{r, c})
		}
	}
	return sizes
}

// quadGrids returns the sample grids, those written out here, and some with quarters of one height.
func quadGrids() [][][]int {
	grids := sampleGrids()
	for _, c := range quadCases() {
		grids = append(grids, c.h)
	}
	for _, c := range greatCases() {
		grids = append(grids, c.h)
	}
	for _, size := range gridSizes() {
		grids = append(grids, gridsOfFlats(size[0], size[1])...)
	}
	return grids
}

// forEachQuadGrid checks each of the grids, until one is wrong.
func forEachQuadGrid(t *testing.T, check func(h [][]int) bool) {
	t.Helper()
	for _, h := range quadGrids() {
		if !check(h) {
			t.Fatalf("%v: SumsOf = %v, PyramidOf = %v, QuadOf = %q", h, impl.SumsOf(h), impl.PyramidOf(h), impl.QuadOf(h))
		}
	}
}

func isRead(s string, h [][]int) bool {
	got, ok := impl.ReadQuad(s, len(h), len(h[0]))
	return ok && equalRows(got, h)
}

func TestSumsAndQuartersThatAreWrittenOut(t *testing.T) {
	for _, c := range quadCases() {
		if got := impl.SumsOf(c.h); !equalRows(got, c.sums) {
			t.Errorf("%s: SumsOf(%v) = %v, not %v", c.name, c.h, got, c.sums)
		}
		want := append([][][]int{c.h}, c.smaller...)
		if got := impl.PyramidOf(c.h); !equalPyramids(got, want) {
			t.Errorf("%s: PyramidOf(%v) = %v, not %v", c.name, c.h, got, want)
		}
		if got := impl.QuadOf(c.h); got != c.text {
			t.Errorf("%s: QuadOf(%v) = %q, not %q", c.name, c.h, got, c.text)
		}
		if got, ok := impl.ReadQuad(c.text, len(c.h), len(c.h[0])); !ok || !equalRows(got, c.h) {
			t.Errorf("%s: ReadQuad(%q) = %v, %v, not %v", c.name, c.text, got, ok, c.h)
		}
	}
}

func TestGreatestPartsThatAreWrittenOut(t *testing.T) {
	for _, c := range greatCases() {
		if got := impl.GreatestPart(c.h, c.less); got != c.greatest {
			t.Errorf("%s: GreatestPart(%v, %d) = %d, not %d", c.name, c.h, c.less, got, c.greatest)
		}
	}
}

func TestSumsOfPartsThatAreWrittenOut(t *testing.T) {
	h := [][]int{{1, 2, 4}, {8, 5, 12}}
	for p, want := range map[rectangle]int{
		{0, 0, 2, 3}: 32, {0, 0, 1, 3}: 7, {1, 0, 2, 3}: 25, {0, 0, 2, 1}: 9, {0, 1, 2, 2}: 7, {0, 2, 2, 3}: 16,
		{0, 0, 1, 1}: 1, {0, 1, 1, 2}: 2, {0, 2, 1, 3}: 4, {1, 0, 2, 1}: 8, {1, 1, 2, 2}: 5, {1, 2, 2, 3}: 12,
		{0, 0, 1, 2}: 3, {0, 1, 1, 3}: 6, {1, 0, 2, 2}: 13, {1, 1, 2, 3}: 17, {0, 0, 2, 2}: 16, {0, 1, 2, 3}: 23,
		{0, 0, 0, 0}: 0, {0, 0, 0, 3}: 0, {1, 0, 1, 3}: 0, {2, 0, 2, 3}: 0, {0, 0, 2, 0}: 0, {0, 1, 2, 1}: 0, {0, 3, 2, 3}: 0, {2, 3, 2, 3}: 0,
	} {
		if got := sumIn(h, p); got != want {
			t.Errorf("SumIn(%v, %v) = %d, not %d", h, p, got, want)
		}
	}
}

func TestSumsAreToldByCells(t *testing.T) {
	forEachQuadGrid(t, func(h [][]int) bool {
		sums := impl.SumsOf(h)
		if len(sums) != len(h)+1 {
			return false
		}
		for r, row := range sums {
			if len(row) != len(h[0])+1 {
				return false
			}
			for c, sum := range row {
				if sum != sumByCells(h, rectangle{0, 0, r, c}) {
					return false
				}
			}
		}
		return true
	})
}

func TestPromise57TheLastSumIsAll(t *testing.T) {
	forEachQuadGrid(t, func(h [][]int) bool {
		sums := impl.SumsOf(h)
		for _, row := range sums {
			if row[0] != 0 {
				return false
			}
		}
		return slices.Max(sums[0]) == 0 && slices.Min(sums[0]) == 0 && sums[len(h)][len(h[0])] == sumOf(h)
	})
}

func TestPromise58PartsAreAdded(t *testing.T) {
	forEachQuadGrid(t, func(h [][]int) bool {
		across := turned(h)
		for _, p := range rectanglesOf(h) {
			sum := sumIn(h, p)
			if sum != sumByCells(h, p) || impl.SumIn(across, p.left, p.top, p.right, p.bottom) != sum {
				return false
			}
			for row := p.top; row <= p.bottom; row++ {
				if impl.SumIn(h, p.top, p.left, row, p.right)+impl.SumIn(h, row, p.left, p.bottom, p.right) != sum {
					return false
				}
			}
		}
		return true
	})
}

func TestSumInOfWholeGridsCellsAndNothing(t *testing.T) {
	forEachQuadGrid(t, func(h [][]int) bool {
		rows, columns := len(h), len(h[0])
		for i := range cellsOf(h) {
			r, c := i/columns, i%columns
			if impl.SumIn(h, r, c, r+1, c+1) != h[r][c] {
				return false
			}
		}
		for row := range rows + 1 {
			if impl.SumIn(h, row, 0, row, columns) != 0 {
				return false
			}
		}
		for column := range columns + 1 {
			if impl.SumIn(h, 0, column, rows, column) != 0 {
				return false
			}
		}
		return impl.SumIn(h, 0, 0, rows, columns) == sumOf(h)
	})
}

func TestPromise59TheGreatestPartIsTheGreatest(t *testing.T) {
	forEachQuadGrid(t, func(h [][]int) bool {
		for less := range impl.MaxHeight + 1 {
			greatest := 0
			for _, p := range rectanglesOf(h) {
				greatest = max(greatest, sumByCells(h, p)-less*p.cells())
			}
			if impl.GreatestPart(h, less) != greatest || greatestByRuns(h, less) != greatest {
				return false
			}
		}
		return true
	})
}

func TestGreatestPartsAtTheirLimits(t *testing.T) {
	forEachQuadGrid(t, func(h [][]int) bool {
		highest := slices.Max(slices.Concat(h...))
		if impl.GreatestPart(h, 0) != sumOf(h) || impl.GreatestPart(h, impl.MaxHeight) != 0 {
			return false
		}
		for less := range impl.MaxHeight + 1 {
			// A part is better than none exactly if a cell is.
			if (impl.GreatestPart(h, less) == 0) != (highest <= less) {
				return false
			}
		}
		return true
	})
}

func TestPromise60PyramidsKeepTheSum(t *testing.T) {
	forEachQuadGrid(t, func(h [][]int) bool {
		pyramid := impl.PyramidOf(h)
		for _, numbers := range pyramid {
			if sumOf(numbers) != sumOf(h) {
				return false
			}
		}
		last := pyramid[len(pyramid)-1]
		return equalRows(last, [][]int{{sumOf(h)}})
	})
}

func TestPyramidsAreToldBySquares(t *testing.T) {
	forEachQuadGrid(t, func(h [][]int) bool {
		pyramid := impl.PyramidOf(h)
		// Sides are halved, and rounded up, until both are 1.
		halvings := bits.Len(uint(max(len(h), len(h[0])) - 1))
		return equalPyramids(pyramid, pyramidBySquares(h)) && equalRows(pyramid[0], h) && len(pyramid) == halvings+1
	})
}

func TestPromise83PyramidsAreSumsOfParts(t *testing.T) {
	forEachQuadGrid(t, func(h [][]int) bool {
		pyramid := impl.PyramidOf(h)
		if len(pyramid) == 1 {
			return cellsOf(h) == 1
		}
		second := pyramid[1]
		for r, row := range second {
			for c, number := range row {
				if number != impl.SumIn(h, 2*r, 2*c, min(2*r+2, len(h)), min(2*c+2, len(h[0]))) {
					return false
				}
			}
		}
		return len(second) == (len(h)+1)/2 && len(second[0]) == (len(h[0])+1)/2
	})
}

func TestQuartersAreToldByCuts(t *testing.T) {
	forEachQuadGrid(t, func(h [][]int) bool {
		return impl.QuadOf(h) == textByCuts(h)
	})
}

func TestPromise61QuartersAreReadBack(t *testing.T) {
	forEachQuadGrid(t, func(h [][]int) bool {
		text := impl.QuadOf(h)
		if !isRead(text, h) {
			return false
		}
		for height := range impl.MaxHeight + 1 {
			flat := constantRows(len(h), len(h[0]), height)
			if !isFlat(h) && len(impl.QuadOf(flat)) >= len(text) {
				return false
			}
		}
		return !isFlat(h) || text == strconv.Itoa(h[0][0])+";"
	})
}

func TestDifferentGridsHaveDifferentTexts(t *testing.T) {
	grids := map[string][][]int{}
	forEachQuadGrid(t, func(h [][]int) bool {
		key := fmt.Sprint(len(h), len(h[0]), impl.QuadOf(h))
		same, met := grids[key]
		grids[key] = h
		return !met || equalRows(same, h)
	})
}

// checkReading checks that a text is read as the one grid of so many rows and columns that it is of, or not at all, and reports which.
func checkReading(t *testing.T, s string, r, c int) bool {
	t.Helper()
	want, right := readStrictly(s, r, c)
	got, ok := impl.ReadQuad(s, r, c)
	if ok != right || right && !equalRows(got, want) || !ok && len(got) != 0 {
		t.Fatalf("ReadQuad(%q, %d, %d) = %v, %v, not %v, %v", s, r, c, got, ok, want, right)
	}
	if ok && (impl.QuadOf(got) != s || !impl.ValidGrid(got) || len(got) != r || len(got[0]) != c) {
		t.Fatalf("ReadQuad(%q, %d, %d) = %v, with the text %q", s, r, c, got, impl.QuadOf(got))
	}
	return ok
}

// lexemes returns a text cut behind each semicolon, bracket and point.
func lexemes(s string) []string {
	var cut []string
	start := 0
	for i := range len(s) {
		if strings.ContainsRune(";().", rune(s[i])) {
			cut = append(cut, s[start:i+1])
			start = i + 1
		}
	}
	return cut
}

// withCharactersChanged returns texts that are one character less, or one of the characters more or for another one, away, or
// have two the other way round.
func withCharactersChanged(s, characters string) []string {
	var changed []string
	for i := range len(s) + 1 {
		for _, more := range characters {
			changed = append(changed, s[:i]+string(more)+s[i:])
			if i < len(s) {
				changed = append(changed, s[:i]+string(more)+s[i+1:])
			}
		}
		if i < len(s) {
			changed = append(changed, s[:i]+s[i+1:])
		}
		if i+1 < len(s) {
			changed = append(changed, s[:i]+s[i+1:i+2]+s[i:i+1]+s[i+2:])
		}
	}
	return changed
}

// withLexemesChanged returns texts with something else for one of their lexemes, or ahead of it.
func withLexemesChanged(s string) []string {
	others := []string{
		"", "5;", "12;", "13;", "05;", "012;", "+5;", "-5;", "-0;", " 5;", "5 ;", "5", ";", "5;;", "5.", "5;5;", ".", "..", "...", "(", ")", "()", "(.)",
		"(5;...)", "(.5;..)", "(5;5;..)", "(5;6;..)", "(5;.5;.)", "(5;.6;.)", "(5;5;5;5;)", "(5;5;5;6;)", "(5;5;6;)", "(5;5;5;6;5;)", "(....)", "(((5;6;..)7;..)8;..)",
	}
	var changed []string
	cut := lexemes(s)
	for n, lexeme := range cut {
		ahead, behind := strings.Join(cut[:n], ""), strings.Join(cut[n+1:], "")
		for _, other := range others {
			changed = append(changed, ahead+other+behind, ahead+other+lexeme+behind)
		}
	}
	return changed
}

func TestPromise62WhatIsReadByQuartersIsWrittenSo(t *testing.T) {
	read, unread := 0, 0
	for _, size := range gridSizes() {
		grids := gridsOfFlats(size[0], size[1])
		for _, h := range grids[:12] {
			text := impl.QuadOf(h)
			for _, s := range slices.Concat([]string{text}, withCharactersChanged(text, "0123456789;.() +-,x"), withLexemesChanged(text)) {
				if checkReading(t, s, size[0], size[1]) {
					read++
				} else {
					unread++
				}
			}
		}
	}
	if read < 10000 || unread < 10000 {
		t.Errorf("only %d texts are read, or only %d are not", read, unread)
	}
}

// forEachText calls check with all texts of at most so many of the words.
func forEachText(words []string, most int, check func(s string)) {
	var extend func(s string, more int)
	extend = func(s string, more int) {
		check(s)
		if more == 0 {
			return
		}
		for _, word := range words {
			extend(s+word, more-1)
		}
	}
	extend("", most)
}

// checkAllTexts checks that of all texts of at most so many of the words just those of grids of so many rows and columns are read.
func checkAllTexts(t *testing.T, words string, most, r, c, want int) {
	t.Helper()
	read := 0
	forEachText(strings.Fields(words), most, func(s string) {
		if checkReading(t, s, r, c) {
			read++
		}
	})
	if read != want {
		t.Errorf("of all texts of %s %d are those of grids of %d rows and %d columns, not %d", words, read, r, c, want)
	}
}

func TestOfShortTextsJustThoseOfGridsAreRead(t *testing.T) {
	checkAllTexts(t, "0 1 2 3 4 5 6 7 8 9 ; . ( )", 4, 1, 1, 13)
	checkAllTexts(t, "0 1 2 3 4 5 6 7 8 9 ; . ( )", 4, 5, 5, 13)
	// Two heights one after the other, of 1 and 2, and either one alone, or 11, or 12.
	checkAllTexts(t, "1 2 ; . ( )", 8, 1, 2, 2+4)
	checkAllTexts(t, "1 2 ; . ( )", 8, 2, 1, 2+4)
	// All grids of two heights, and of three.
	checkAllTexts(t, "0; 12; . ( )", 7, 2, 2, 16)
	checkAllTexts(t, "0; 7; 12; ( )", 6, 2, 2, 81)
	// Grids as of two rows of two, where each quarter has one height.
	checkAllTexts(t, "0; 12; . ( )", 7, 3, 5, 16)
}

func TestTextsOfOtherSizes(t *testing.T) {
	read := 0
	for _, size := range gridSizes() {
		for _, h := range gridsOfFlats(size[0], size[1]) {
			for _, other := range gridSizes() {
				if checkReading(t, impl.QuadOf(h), other[0], other[1]) && size != other {
					read++
				}
			}
		}
	}
	if read < 1000 {
		t.Errorf("only %d texts are also those of a grid of another size", read)
	}
}

func TestTextsThatAreOfSeveralSizes(t *testing.T) {
	for _, h := range [][][]int{
		{{1, 2}, {3, 4}}, {{1, 1, 2}, {3, 3, 4}}, {{1, 2}, {1, 2}, {3, 4}}, {{1, 1, 2, 2}, {3, 3, 4, 4}}, {{1, 1, 2}, {1, 1, 2}, {3, 3, 4}},
		{{1, 1, 1, 2, 2}, {1, 1, 1, 2, 2}, {1, 1, 1, 2, 2}, {3, 3, 3, 4, 4}, {3, 3, 3, 4, 4}},
	} {
		if !isRead("(1;2;3;4;)", h) || impl.QuadOf(h) != "(1;2;3;4;)" {
			t.Errorf("%v has the text %q", h, impl.QuadOf(h))
		}
	}
	for _, size := range gridSizes() {
		for height := range impl.MaxHeight + 1 {
			if h := constantRows(size[0], size[1], height); !isRead(fmt.Sprintf("%d;", height), h) {
				t.Errorf("%v is not read", h)
			}
		}
	}
}

// textsCutShort returns the text of a bowl of three rows and columns, cut short at each place.
func textsCutShort() []string {
	const text = "((5;5;5;1;)5;(5;4;..)5;)"
	var short []string
	for end := range len(text) {
		short = append(short, text[:end], text[end+1:])
	}
	return short
}

func TestTextsThatAreNearlyRight(t *testing.T) {
	for _, c := range []struct {
		r, c  int
		texts []string
	}{
		{1, 1, []string{
			"", ";", "7", "7;;", "7;.", ".7;", "7;7;", "7;)", "(7;", "(7;)", "7;x", "x7;", "7x;", "7,", "7:", ".", "..", "(....)", "(7;...)", "((7;...)...)", "07;", "007;", "00;",
			"012;", "13;", "20;", "99;", "100;", "120;", "-1;", "-0;", "-7;", "+7;", " 7;", "7 ;", "7; ", "7;\n", "\t7;", "7.;", "7.0;", "1e1;", "0x7;", "7;\x00", "1 2;", "1;2;", "seven;",
			"263;", "65543;", "4294967303;", "18446744073709551623;", "-18446744073709551609;",
		}},
		{1, 2, []string{
			"(1;1;..)", "(1;2;.)", "(1;2;..", "(1;2;", "(1;2;...)", "(1;2;)", "(1;2;..))", "(1;2;..).", "(1;2;..)1;", "((1;2;..))", "1;2;", "1;2;..", "(1;.2;.)", "(12;..)", "(1;2..)", "(1.2;..)",
			"(1;2;.;)", "(1;2;0;0;)", "(1;2;1;2;)", "(1;2;0;.)", "(1;2;.0;)", "(1;..2;)", "(.1;2;.)", "(..1;2;)", "(1;(2;...)..)", "(01;2;..)", "(1;02;..)", "(1;13;..)", "(1;-2;..)", "( 1;2;..)", "(1; 2;..)",
			"(1;2;. .)", ")1;2;..(", "[1;2;..]", "(1,2,..)", "(1;2;..)(1;2;..)", "(2;1;", "(....)", "().", ".",
		}},
		{2, 1, []string{"(1;2;..)", "(1;.1;.)", "(1;.2;)", "(1;2;)", "(.1;.2;)", "(1;..2;)", "(1;.2;..)", "(1;.2;.", "1;.2;.", "(1;0;2;0;)", "(1;1;2;2;)"}},
		{2, 2, []string{
			"(7;7;7;7;)", "(1;2;3;)", "(1;2;3;4;5;)", "(1;2;3;4;", "1;2;3;4;)", "1;2;3;4;", "(1;2;3;4)", "(1;2;34;)", "(1;2;3;.)", "(1;2;..)", "(1;.3;.)", "(1;2;3;4;).", "(1;2;3;4;))", "(1;2;3;(4;...))", "((1;2;3;4;))",
			"(1;2;3;4;)(1;2;3;4;)",
		}},
		{3, 3, append(textsCutShort(),
			"((5;5;5;1;)5;(5;4;..)5;))", "((5;5;5;1;)5;(5;4;..)5;).", "((5;5;5;1;)(5;.5;.)(5;4;..)5;)", "((5;5;5;1;)5;(5;.4;.)5;)", "((5;5;5;1;)5;(4;5;..)(5;...))",
			"((5;5;5;5;)5;(5;4;..)5;)", "((5;5;5;1;)5;5;4;5;)", "(5;5;5;1;)5;(5;4;..)5;", "((7;7;7;7;)7;7;7;)", "(7;7;7;7;)", "(7;(7;.7;.)(7;7;..)7;)", "((5;5;5;1;5;(5;4;..)5;))")},
		{5, 5, []string{"(((1;0;0;1;)0;0;1;)0;0;(1;0;0;1;)", "(((1;0;0;1;)0;0;1;)0;(0;0;..)(1;0;0;1;))", "(((1;0;0;1;)0;0;1;)0;0;((1;...)0;0;1;))", "(((1;0;0;1;)0;0;1;)0;0;(1;0;0;01;))"}},
	} {
		for _, s := range c.texts {
			if h, ok := impl.ReadQuad(s, c.r, c.c); ok || len(h) != 0 {
				t.Errorf("ReadQuad(%q, %d, %d) = %v, %v", s, c.r, c.c, h, ok)
			}
		}
	}
}

func TestTextsOfCharactersBeyondASCII(t *testing.T) {
	texts := []string{
		"\u0667;", "\u096d;", "\uff17;", "7\uff1b", "7\u037e", "\uff17\uff1b", "\u0137;", "7\u013b", "\U0001f307;", "\U00010037;", "\u2077;", "\u2167;", "7\u0301;", "\ufeff7;", "7;\ufeff", "\u00a07;", "7\u2024", "\u00e9", "\ufffd",
		"\xff", "\xb7;", "\xc0\xb7;", "7\xbb", "7;\xff", "\xff7;", "7\x80;", "\xed\xa0\x80", "7\xc0\xbb",
	}
	for _, s := range texts {
		for _, around := range []string{s, "(" + s + "2;..)", "(1;" + s + "..)", "(1;2;.." + s + ")", "(1;2;..)" + s, s + "(1;2;..)"} {
			for _, columns := range []int{1, 2} {
				if h, ok := impl.ReadQuad(around, 1, columns); ok || len(h) != 0 {
					t.Errorf("ReadQuad(%q, 1, %d) = %v, %v", around, columns, h, ok)
				}
			}
		}
	}
}

func TestLongTexts(t *testing.T) {
	const many = 1000000
	for _, word := range []string{"(", ")", ".", "0", "1", ";", "7;", "()", "(7;", "(1;2;..)", "\xff", "\u0667"} {
		long := strings.Repeat(word, many)
		for _, s := range []string{long, long + "7;", "7;" + long, "(" + long, "(1;2;.." + long, "(1;2;..)" + long} {
			for _, size := range gridSizes() {
				if h, ok := impl.ReadQuad(s, size[0], size[1]); ok || len(h) != 0 {
					t.Fatalf("many %q are read as %v", word, h)
				}
			}
		}
	}
}

func TestRowsThatAreNoGridHaveNoSums(t *testing.T) {
	for what, h := range badGrids() {
		before := cloneRows(h)
		if sums, pyramid, text := impl.SumsOf(h), impl.PyramidOf(h), impl.QuadOf(h); len(sums) != 0 || len(pyramid) != 0 || text != "" {
			t.Errorf("%s: SumsOf = %v, PyramidOf = %v, QuadOf = %q", what, sums, pyramid, text)
		}
		for _, p := range []rectangle{{0, 0, 0, 0}, {0, 0, 1, 1}, {0, 0, len(h), 1}, {0, 0, len(h), 0}, {0, 0, 1, 2}, {0, 0, -1, -1}} {
			if got := sumIn(h, p); got != -1 {
				t.Errorf("%s: SumIn of %v = %d", what, p, got)
			}
		}
		for less := -1; less <= impl.MaxHeight+1; less++ {
			if got := impl.GreatestPart(h, less); got != -1 {
				t.Errorf("%s: GreatestPart less %d = %d", what, less, got)
			}
		}
		if !equalRows(h, before) {
			t.Errorf("%s: changed to %v", what, h)
		}
	}
}

func TestPartsThatAreNotInTheGrid(t *testing.T) {
	ends := []int{math.MinInt, -6, -5, -1, 6, 7, math.MaxInt}
	for _, h := range [][][]int{{{7}}, {{1, 2, 3}}, {{1}, {2}, {3}}, {{1, 2}, {3, 4}, {5, 6}}, constantRows(5, 5, 12)} {
		inside := map[rectangle]bool{}
		for _, p := range rectanglesOf(h) {
			inside[p] = true
		}
		all := slices.Concat(ends, []int{0, 1, 2, 3, 4, 5})
		for _, top := range all {
			for _, left := range all {
				for _, bottom := range all {
					for _, right := range all {
						p := rectangle{top, left, bottom, right}
						if got := sumIn(h, p); !inside[p] && got != -1 || inside[p] && got != sumByCells(h, p) {
							t.Fatalf("SumIn(%v, %v) = %d", h, p, got)
						}
					}
				}
			}
		}
	}
}

func TestNumbersThatAreNotToldForParts(t *testing.T) {
	for _, h := range quadGrids()[:500] {
		for _, less := range []int{-1, -12, impl.MaxHeight + 1, 100, math.MinInt, math.MaxInt} {
			if got := impl.GreatestPart(h, less); got != -1 {
				t.Fatalf("GreatestPart(%v, %d) = %d", h, less, got)
			}
		}
	}
}

func TestSizesThatNoGridHas(t *testing.T) {
	bad := []int{0, -1, -impl.MaxSide, impl.MaxSide + 1, 100, math.MinInt, math.MaxInt}
	for _, n := range bad {
		for _, k := range append(bad, 1, 2, impl.MaxSide) {
			for _, s := range []string{"", ".", "7;", "(1;2;..)", "(1;.2;.)", "(1;2;3;4;)", "(....)"} {
				h, ok := impl.ReadQuad(s, n, k)
				across, okAcross := impl.ReadQuad(s, k, n)
				if ok || okAcross || len(h) != 0 || len(across) != 0 {
					t.Errorf("ReadQuad(%q) of %d and %d = %v, the other way %v", s, n, k, h, across)
				}
			}
		}
	}
}

func TestSumsAndPyramidsAreTheirOwn(t *testing.T) {
	checkRowsToRows(t, "SumsOf", quadGrids(), impl.SumsOf)
	// All rows of a pyramid, one grid after the other, are to be checked against each other.
	checkRowsToRows(t, "PyramidOf", quadGrids(), func(h [][]int) [][]int { return slices.Concat(impl.PyramidOf(h)...) })
	checkRowsToRows(t, "ReadQuad of QuadOf", quadGrids(), func(h [][]int) [][]int {
		read, _ := impl.ReadQuad(impl.QuadOf(h), len(h), len(h[0]))
		return read
	})
}

// The grids of a pyramid are slices of rows, which must not be parts of one another either.
func TestPyramidsShareNoRows(t *testing.T) {
	forEachQuadGrid(t, func(h [][]int) bool {
		want := pyramidBySquares(h)
		for n := range want {
			pyramid := impl.PyramidOf(h)
			all := pyramid[n][:cap(pyramid[n])]
			clear(all)
			for k := range pyramid {
				if k != n && !equalRows(pyramid[k], want[k]) {
					return false
				}
			}
		}
		return true
	})
}

func TestSumsKeepTheirMemory(t *testing.T) {
	forEachQuadGrid(t, func(h [][]int) bool {
		// The rows are parts of one list, each one with the next one behind it.
		memory := slices.Concat(append(cloneRows(h), []int{-5, -5})...)
		before := slices.Clone(memory)
		var parts [][]int
		for r := range h {
			parts = append(parts, memory[r*len(h[0]):(r+1)*len(h[0])])
		}
		same := equalRows(impl.SumsOf(parts), impl.SumsOf(h)) && equalPyramids(impl.PyramidOf(parts), pyramidBySquares(h)) &&
			impl.QuadOf(parts) == textByCuts(h) && impl.GreatestPart(parts, 3) == greatestByRuns(h, 3) && impl.SumIn(parts, 0, 0, len(h), len(h[0])) == sumOf(h)
		return same && slices.Equal(memory, before)
	})
}

func TestSumsOfRowsThatAreOneSlice(t *testing.T) {
	row := []int{1, 2, 12}
	h := [][]int{row, row, row}
	if got := impl.SumsOf(h); !equalRows(got, [][]int{{0, 0, 0, 0}, {0, 1, 3, 15}, {0, 2, 6, 30}, {0, 3, 9, 45}}) {
		t.Errorf("SumsOf(%v) = %v", h, got)
	}
	if got := impl.PyramidOf(h); !equalPyramids(got, [][][]int{h, {{6, 24}, {3, 12}}, {{45}}}) {
		t.Errorf("PyramidOf(%v) = %v", h, got)
	}
	if got := impl.QuadOf(h); got != "((1;2;1;2;)12;(1;2;..)12;)" {
		t.Errorf("QuadOf(%v) = %q", h, got)
	}
	if got := impl.GreatestPart(h, 5); got != 21 || !slices.Equal(row, []int{1, 2, 12}) {
		t.Errorf("GreatestPart(%v, 5) = %d", h, got)
	}
	if got := impl.SumIn(h, 1, 0, 3, 2); got != 6 || !slices.Equal(row, []int{1, 2, 12}) {
		t.Errorf("SumIn(%v, 1, 0, 3, 2) = %d", h, got)
	}
}
