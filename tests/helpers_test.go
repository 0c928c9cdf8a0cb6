package tests

import (
	"fmt"
	"math"
	"slices"
	"testing"

	"loop.example/wateronheights/impl"
)

// sampleGrids returns valid grids of all shapes: every one of few cells and low heights,
// those of one height, and for each shape some of mixed heights, the same in each run.
func sampleGrids() [][][]int {
	var grids [][][]int
	mixed := mixer(1)
	for r := 1; r <= impl.MaxSide; r++ {
		for c := 1; c <= impl.MaxSide; c++ {
			if r*c <= 6 {
				grids = append(grids, everyGrid(r, c, 3)...)
			}
			for height := range impl.MaxHeight + 1 {
				grids = append(grids, gridOf(r, c, func() int { return height }))
			}
			for n := range 60 {
				top := 1 + n%impl.MaxHeight
				grids = append(grids, gridOf(r, c, func() int { return mixed(top + 1) }))
			}
		}
	}
	return grids
}

// mixer returns a function that gives numbers from 0 up to less than its argument, in a fixed order.
func mixer(seed uint64) func(int) int {
	state := seed
	return func(n int) int {
		state = state*6364136223846793005 + 1442695040888963407
		return int(state>>33) % n
	}
}

func gridOf(r, c int, next func() int) [][]int {
	h := make([][]int, r)
	for row := range h {
		h[row] = make([]int, c)
		for column := range h[row] {
			h[row][column] = next()
		}
	}
	return h
}

// everyGrid returns all grids of r rows and c columns with heights below so many.
func everyGrid(r, c, heights int) [][][]int {
	count := 1
	for range r * c {
		count *= heights
	}
	var grids [][][]int
	for n := range count {
		rest := n
		grids = append(grids, gridOf(r, c, func() int {
			height := rest % heights
			rest /= heights
			return height
		}))
	}
	return grids
}

// badGrids returns rows that are not a grid, by what is wrong with them.
func badGrids() map[string][][]int { return badRows(impl.MaxSide, impl.MaxHeight) }

// badRows returns rows that are not as many as they must be, or not of as many numbers, up to so many both, or not of numbers
// from 0 up to the greatest one, by what is wrong with them.
func badRows(most, greatest int) map[string][][]int {
	flat := func(r, c int) [][]int { return gridOf(r, c, func() int { return 1 }) }
	bad := map[string][][]int{
		"nil":                           nil,
		"no rows":                       {},
		"one row without numbers":       {{}},
		"one nil row":                   {nil},
		"rows without numbers":          {{}, {}},
		"a row without numbers":         {{1, 1}, {}},
		"no numbers in the first row":   {{}, {1}},
		"a shorter row":                 {{1, 1}, {1}},
		"a longer row":                  {{1}, {1, 1}},
		"a longer row in the middle":    {{1, 1}, {1, 1, 1}, {1, 1}},
		"as many numbers, unequal rows": {{1, 1, 1}, {1}},
		"a row too many":                flat(most+1, 1),
		"a row too many of many":        flat(most+1, most),
		"a number too many in a row":    flat(1, most+1),
		"a number too many in all rows": flat(most, most+1),
		"far too many rows":             flat(100, 2),
	}
	for _, number := range []int{-1, greatest + 1, math.MinInt, math.MaxInt} {
		for _, side := range []int{1, 3, most} {
			for i := range side * side {
				h := flat(side, side)
				h[i/side][i%side] = number
				bad[fmt.Sprintf("%d at the cell %d of %d rows", number, i, side)] = h
			}
		}
	}
	return bad
}

// badCells returns numbers that are not a cell of the grid.
func badCells(h [][]int) []int {
	n := cellsOf(h)
	return []int{-1, -n, n, n + 1, math.MinInt, math.MaxInt}
}

func cellsOf(h [][]int) int { return len(h) * len(h[0]) }

func heightAt(rows [][]int, i int) int { return rows[i/len(rows[0])][i%len(rows[0])] }

func cloneRows(rows [][]int) [][]int {
	clone := make([][]int, len(rows))
	for r := range rows {
		clone[r] = slices.Clone(rows[r])
	}
	return clone
}

// turned returns a grid with its rows as columns.
func turned(h [][]int) [][]int {
	t := make([][]int, len(h[0]))
	for c := range t {
		for r := range h {
			t[c] = append(t[c], h[r][c])
		}
	}
	return t
}

// upsideDown returns a grid with low heights for high ones.
func upsideDown(h [][]int) [][]int {
	u := cloneRows(h)
	for r := range u {
		for c := range u[r] {
			u[r][c] = impl.MaxHeight - u[r][c]
		}
	}
	return u
}

func equalRows(a, b [][]int) bool {
	return slices.EqualFunc(a, b, func(x, y []int) bool { return slices.Equal(x, y) })
}

// overwrite fills the rows, up to their capacity, with a number that no result has.
func overwrite(rows ...[]int) {
	for _, row := range rows {
		row = row[:cap(row)]
		for i := range row {
			row[i] = -77
		}
	}
}

// checkGridToRows checks with grids that a function keeps its argument, and that its rows share no memory with it or each other.
func checkGridToRows(t *testing.T, name string, f func([][]int) [][]int) {
	t.Helper()
	checkRowsToRows(t, name, sampleGrids(), f)
}

// checkRowsToRows checks that a function keeps each of its arguments, and that its rows share no memory with it or each other.
func checkRowsToRows(t *testing.T, name string, arguments [][][]int, f func([][]int) [][]int) {
	t.Helper()
	for _, h := range arguments {
		before := cloneRows(h)
		want := cloneRows(f(h))
		if !equalRows(h, before) {
			t.Fatalf("%s changed %v to %v", name, before, h)
		}
		for r := range want {
			got := f(h)
			overwrite(got[r])
			for k := range got {
				if k != r && !slices.Equal(got[k], want[k]) {
					t.Fatalf("%s(%v): rows %d and %d share memory", name, h, r, k)
				}
			}
			if !equalRows(h, before) || !equalRows(f(h), want) {
				t.Fatalf("%s(%v): its row %d is not its own", name, before, r)
			}
		}
	}
}

// checkGridToList checks that a function keeps its argument, and that its list shares no memory with it.
func checkGridToList(t *testing.T, name string, f func([][]int) []int) {
	t.Helper()
	for _, h := range sampleGrids() {
		before := cloneRows(h)
		got := f(h)
		want := slices.Clone(got)
		overwrite(got)
		if !equalRows(h, before) || !slices.Equal(f(h), want) {
			t.Fatalf("%s(%v): its result is not its own, or the grid is changed to %v", name, before, h)
		}
	}
}

// sampleProfiles returns valid profiles of all lengths: every one of few places and low heights, those whose places
// are in a line, arches and hollows, and for each length some of mixed heights, the same in each run.
func sampleProfiles() [][]int {
	var profiles [][]int
	mixed := mixer(6)
	for places := 1; places <= impl.MaxProfile; places++ {
		heights := 2
		if places <= 6 {
			heights = 3
		}
		for _, h := range everyGrid(1, places, heights) {
			profiles = append(profiles, h[0])
		}
		profiles = append(profiles, profilesInALine(places)...)
		profiles = append(profiles, bentProfiles(places)...)
		for n := range 120 {
			top := 1 + n%impl.MaxHeight
			profiles = append(profiles, profileOf(places, func(int) int { return mixed(top + 1) }))
		}
	}
	return profiles
}

func profileOf(places int, heightAt func(place int) int) []int {
	p := make([]int, places)
	for k := range p {
		p[k] = heightAt(k)
	}
	return p
}

// profilesInALine returns all profiles of so many places that rise or fall by the same in each step, or stay level.
func profilesInALine(places int) [][]int {
	var profiles [][]int
	for first := range impl.MaxHeight + 1 {
		for rise := -impl.MaxHeight; rise <= impl.MaxHeight; rise++ {
			p := profileOf(places, func(k int) int { return first + rise*k })
			if isWithinHeights(p) {
				profiles = append(profiles, p)
			}
			if places == 1 {
				break
			}
		}
	}
	return profiles
}

func isWithinHeights(p []int) bool {
	return slices.Min(p) >= 0 && slices.Max(p) <= impl.MaxHeight
}

// bentProfiles returns profiles of so many places that rise ever more or ever less, fall so, or do one after the other.
func bentProfiles(places int) [][]int {
	var profiles [][]int
	for middle := range places {
		hollow := profileOf(places, func(k int) int { return min((k-middle)*(k-middle)/2, impl.MaxHeight) })
		arch := profileOf(places, func(k int) int { return impl.MaxHeight - hollow[k] })
		profiles = append(profiles, hollow, arch)
	}
	return profiles
}

// badProfiles returns numbers that are not a profile, by what is wrong with them.
func badProfiles() map[string][]int {
	flat := func(places int) []int { return profileOf(places, func(int) int { return 1 }) }
	bad := map[string][]int{
		"nil":               nil,
		"no heights":        {},
		"a height too many": flat(impl.MaxProfile + 1),
		"far too many":      flat(100),
	}
	for _, height := range []int{-1, impl.MaxHeight + 1, math.MinInt, math.MaxInt} {
		for _, places := range []int{1, 2, 5, impl.MaxProfile} {
			for k := range places {
				p := flat(places)
				p[k] = height
				bad[fmt.Sprintf("height %d at the place %d of %d", height, k, places)] = p
			}
		}
	}
	return bad
}

// badPlaces returns numbers that are not a place of the profile.
func badPlaces(p []int) []int {
	return []int{-1, -len(p), len(p), len(p) + 1, math.MinInt, math.MaxInt}
}

// backwards returns a list the other way round.
func backwards[T any](list []T) []T {
	turned := slices.Clone(list)
	slices.Reverse(turned)
	return turned
}
