package tests

import (
	"slices"
	"testing"

	"loop.example/wateronheights/impl"
)

// passCase is a grid with how its waters come together, written out; passes are two cells and the pass between them.
type passCase struct {
	name   string
	h      [][]int
	merges [][]int
	keeps  []int
	stands []int
	span   int
	passes [][3]int
}

func passCases() []passCase {
	return slices.Concat(onePitCases(), pitsAsHighCases(), edgePassCases(), rowPassCases())
}

func onePitCases() []passCase {
	alone := []int{-1}
	return []passCase{
		{"one cell", [][]int{{7}}, nil, alone, alone, 0, [][3]int{{0, 0, 7}}},
		{"one cell of height 0", [][]int{{0}}, nil, alone, alone, 0, [][3]int{{0, 0, 0}}},
		{"one cell of the greatest height", [][]int{{12}}, nil, alone, alone, 0, [][3]int{{0, 0, 12}}},
		{"one row of one height", [][]int{{4, 4, 4, 4, 4}}, nil, alone, alone, 16, [][3]int{{0, 4, 4}, {2, 2, 4}}},
		{"one column of one height", [][]int{{3}, {3}, {3}}, nil, alone, alone, 6, [][3]int{{0, 2, 3}}},
		{"all of height 0", constantRows(5, 5, 0), nil, alone, alone, 0, [][3]int{{0, 24, 0}, {12, 12, 0}}},
		{"all of the greatest height", constantRows(5, 5, 12), nil, alone, alone, 288, [][3]int{{0, 24, 12}}},
		{"a bowl", [][]int{{5, 5, 5}, {5, 1, 5}, {5, 4, 5}}, nil, alone, alone, 39,
			[][3]int{{4, 7, 4}, {4, 0, 5}, {0, 8, 5}, {4, 4, 1}, {7, 7, 4}}},
		{"a slope", [][]int{{0, 1, 2}, {1, 2, 3}, {2, 3, 4}}, nil, alone, alone, 18,
			[][3]int{{0, 8, 4}, {2, 6, 2}, {1, 3, 1}, {5, 7, 3}}},
		{"a bent pit, at whose ends waters begin before they meet", [][]int{{9, 1, 1}, {1, 1, 9}},
			nil, alone, []int{-1, 8}, 21, [][3]int{{3, 2, 1}, {0, 5, 9}}},
		{"a shore on which waters begin before the pit reaches them", [][]int{{4, 9, 4}, {4, 4, 4}, {9, 0, 9}},
			nil, alone, []int{-1, 5, 5}, 47, [][3]int{{0, 2, 4}, {0, 7, 4}, {1, 8, 9}, {6, 8, 9}}},
	}
}

func pitsAsHighCases() []passCase {
	return []passCase{
		{"two pits as high", [][]int{{1, 2, 1}},
			[][]int{{2, 0, 2}}, []int{-1, 1}, []int{-1}, 4, [][3]int{{0, 2, 2}, {0, 1, 2}}},
		{"two flat pits as high", [][]int{{2, 2, 5, 2, 2}},
			[][]int{{3, 0, 5}}, []int{-1, 3}, []int{-1}, 14, [][3]int{{1, 4, 5}, {0, 1, 2}}},
		{"three pits as high, of which that in the middle keeps until it joins that ahead of it", [][]int{{1, 4, 1, 2, 1}},
			[][]int{{4, 2, 2}, {2, 0, 4}}, []int{-1, 3, 1}, []int{-1, 1}, 12, [][3]int{{0, 2, 4}, {2, 4, 2}, {0, 4, 4}}},
		{"four pits as high at the corners", [][]int{{0, 1, 0}, {1, 1, 1}, {0, 1, 0}},
			[][]int{{2, 0, 1}, {6, 0, 1}, {8, 0, 1}}, []int{-1, 1, 1, 1}, []int{-1}, 8, [][3]int{{0, 8, 1}, {2, 6, 1}}},
		{"three peaks as high", [][]int{{3, 1, 3, 2, 3}},
			[][]int{{3, 1, 3}}, []int{-1, 1}, []int{-1, 2, 1}, 12, [][3]int{{1, 3, 3}}},
	}
}

func edgePassCases() []passCase {
	return []passCase{
		{"a pass at the edge", [][]int{{9, 3, 3, 3, 9}, {9, 1, 9, 2, 9}, {9, 9, 9, 9, 9}},
			[][]int{{8, 6, 3}}, []int{-1, 1}, []int{-1}, 102,
			[][3]int{{6, 8, 3}, {1, 3, 3}, {6, 12, 9}, {6, 7, 9}, {8, 2, 3}}},
		{"a pass inside, lower than that at the edge", [][]int{{9, 9, 9, 9, 9}, {9, 2, 4, 3, 9}, {9, 9, 9, 9, 9}},
			[][]int{{8, 6, 4}}, []int{-1, 1}, []int{-1}, 116, [][3]int{{6, 8, 4}, {6, 0, 9}, {7, 8, 4}}},
		{"a pass over four waters, the second one the first", [][]int{{9, 3, 9}, {0, 5, 2}, {9, 1, 9}},
			[][]int{{1, 3, 5}, {5, 3, 5}, {7, 3, 5}}, []int{2, -1, 3, 4}, []int{-1, 6, 2, 8, 7}, 56,
			[][3]int{{1, 7, 5}, {3, 5, 5}, {0, 8, 9}}},
		{"a pass over four waters, each one before those ahead of it", [][]int{{9, 3, 9}, {2, 5, 1}, {9, 0, 9}},
			[][]int{{1, 3, 5}, {3, 5, 5}, {5, 7, 5}}, []int{2, 3, 4, -1}, []int{-1, 6, 2, 7, 8}, 56,
			[][3]int{{1, 7, 5}, {3, 5, 5}, {0, 8, 9}}},
	}
}

func rowPassCases() []passCase {
	return []passCase{
		{"one row of pits at the least height", [][]int{{0, 3, 0, 5, 0}},
			[][]int{{2, 0, 3}, {4, 0, 5}}, []int{-1, 3, 5}, []int{3, -1}, 16, [][3]int{{0, 2, 3}, {2, 4, 5}, {0, 4, 5}}},
		{"one row of which the lowest pit is the last", [][]int{{2, 5, 1, 3, 0}},
			[][]int{{2, 4, 3}, {0, 4, 5}}, []int{3, 2, -1}, []int{-1, 2}, 16, [][3]int{{2, 4, 3}, {0, 2, 5}, {0, 4, 5}}},
		{"one column", [][]int{{5}, {2}, {6}, {1}, {9}},
			[][]int{{1, 3, 6}}, []int{4, -1}, []int{3, 5, -1}, 26, [][3]int{{0, 1, 5}, {1, 3, 6}, {0, 4, 9}}},
		{"from the least to the greatest height", [][]int{{0, 12, 0}},
			[][]int{{2, 0, 12}}, []int{-1, 12}, []int{-1}, 24, [][3]int{{0, 2, 12}}},
	}
}

// passGrids returns the grids of the filled pits, and those written out here.
func passGrids() [][][]int {
	grids := fillGrids()
	for _, c := range passCases() {
		grids = append(grids, c.h)
	}
	return grids
}

// passesByLevels returns the passes from a cell to each one told by levels: the first one at which it is reached.
func passesByLevels(h [][]int, i int) []int {
	passes := make([]int, cellsOf(h))
	for level := impl.MaxHeight; level >= heightAt(h, i); level-- {
		for k, reached := range floodedFrom(h, []int{i}, func(k int) bool { return heightAt(h, k) <= level }) {
			if reached {
				passes[k] = level
			}
		}
	}
	return passes
}

// isBefore reports whether water comes to a cell before another one when it rises.
func isBefore(h [][]int, i, k int) bool {
	return heightAt(h, i) < heightAt(h, k) || heightAt(h, i) == heightAt(h, k) && i < k
}

// beginningBefore returns where the water of a cell began, as it is just before it rises to another one.
func beginningBefore(h [][]int, i, top int) int {
	beginning := i
	for k, reached := range floodedFrom(h, []int{i}, func(k int) bool { return isBefore(h, k, top) }) {
		if reached && isBefore(h, k, beginning) {
			beginning = k
		}
	}
	return beginning
}

// mergesAt returns which waters a cell joins, told by those that are beside it when it is reached.
func mergesAt(h [][]int, top int) [][]int {
	var beside []int
	for _, i := range besideByPlace(h, top) {
		if began := beginningBefore(h, i, top); isBefore(h, i, top) && !slices.Contains(beside, began) {
			beside = append(beside, began)
		}
	}
	var merges [][]int
	for len(beside) > 1 {
		earlier, later := beside[0], beside[1]
		if isBefore(h, later, earlier) {
			earlier, later = later, earlier
		}
		if heightAt(h, later) < heightAt(h, top) {
			merges = append(merges, []int{later, earlier, heightAt(h, top)})
		}
		beside = beside[1:]
		beside[0] = earlier
	}
	return merges
}

// mergesByFloods is MergesOf told by what is reached before each cell.
func mergesByFloods(h [][]int) [][]int {
	var merges [][]int
	for level := range impl.MaxHeight + 1 {
		for i := range cellsOf(h) {
			if heightAt(h, i) == level {
				merges = append(merges, mergesAt(h, i)...)
			}
		}
	}
	return merges
}

// keepsByLevels is KeepsOf told by levels: the first one at which a cell that is before the pit is reached.
func keepsByLevels(h [][]int) []int {
	var keeps []int
	for _, pit := range extremesByLabels(h, -1) {
		keep := -1
		for level := impl.MaxHeight; level >= heightAt(h, pit); level-- {
			reached := floodedFrom(h, []int{pit}, func(k int) bool { return heightAt(h, k) <= level })
			for k := range reached {
				if reached[k] && isBefore(h, k, pit) {
					keep = level - heightAt(h, pit)
				}
			}
		}
		keeps = append(keeps, keep)
	}
	return keeps
}

// standsByLevels is StandsOf told by levels: the highest one above which a higher cell, or one as high ahead, is reached.
func standsByLevels(h [][]int) []int {
	var stands []int
	for _, peak := range extremesByLabels(h, 1) {
		own, stand := heightAt(h, peak), -1
		for level := range own + 1 {
			reached := floodedFrom(h, []int{peak}, func(k int) bool { return heightAt(h, k) >= level })
			for k := range reached {
				if reached[k] && (heightAt(h, k) > own || heightAt(h, k) == own && k < peak) {
					stand = own - level
				}
			}
		}
		stands = append(stands, stand)
	}
	return stands
}

// spanByLevels is SpanOf told by levels: at each one, the joins that are not there yet.
func spanByLevels(h [][]int) int {
	sum := 0
	for level := range impl.MaxHeight + 1 {
		there, pieces := 0, 0
		under := func(k int) bool { return heightAt(h, k) <= level }
		for i := range cellsOf(h) {
			if !under(i) {
				continue
			}
			there++
			if slices.Index(floodedFrom(h, []int{i}, under), true) == i {
				pieces++
			}
		}
		sum += cellsOf(h) - 1 - there + pieces
	}
	return sum
}

func TestPassesThatAreWrittenOut(t *testing.T) {
	for _, c := range passCases() {
		if got := impl.MergesOf(c.h); !equalRows(got, c.merges) {
			t.Errorf("%s: MergesOf = %v, not %v", c.name, got, c.merges)
		}
		if got := impl.KeepsOf(c.h); !slices.Equal(got, c.keeps) {
			t.Errorf("%s: KeepsOf = %v, not %v", c.name, got, c.keeps)
		}
		if got := impl.StandsOf(c.h); !slices.Equal(got, c.stands) {
			t.Errorf("%s: StandsOf = %v, not %v", c.name, got, c.stands)
		}
		if got := impl.SpanOf(c.h); got != c.span {
			t.Errorf("%s: SpanOf = %d, not %d", c.name, got, c.span)
		}
		for _, p := range c.passes {
			there, back := impl.PassBetween(c.h, p[0], p[1]), impl.PassBetween(c.h, p[1], p[0])
			if there != p[2] || back != p[2] {
				t.Errorf("%s: PassBetween %d and %d = %d and %d, not %d", c.name, p[0], p[1], there, back, p[2])
			}
		}
	}
}

func TestPromise9WaterSpillsOverTheLeastPass(t *testing.T) {
	for _, h := range passGrids() {
		filled := impl.FillByQueue(h)
		for i := range cellsOf(h) {
			least := impl.MaxHeight
			for _, k := range edgeCells(h) {
				least = min(least, impl.PassBetween(h, i, k))
			}
			if got := impl.SpillOf(h, i); got != heightAt(filled, i) || got != least {
				t.Fatalf("SpillOf(%v, %d) = %d, but FillByQueue %d, and the least pass %d", h, i, got, heightAt(filled, i), least)
			}
		}
	}
}

func TestPromise19PassesAreAsFromBothSides(t *testing.T) {
	for _, h := range passGrids() {
		passes := make([][]int, cellsOf(h))
		for i := range passes {
			for k := range passes {
				passes[i] = append(passes[i], impl.PassBetween(h, i, k))
			}
			if want := passesByLevels(h, i); !slices.Equal(passes[i], want) {
				t.Fatalf("PassBetween(%v, %d) = %v, not %v", h, i, passes[i], want)
			}
		}
		for i := range passes {
			for k, pass := range passes[i] {
				if pass != passes[k][i] || pass < max(heightAt(h, i), heightAt(h, k)) {
					t.Fatalf("PassBetween(%v): %d from %d to %d, and %d back", h, pass, i, k, passes[k][i])
				}
				for third := range passes {
					if pass > max(passes[i][third], passes[third][k]) {
						t.Fatalf("PassBetween(%v): %d from %d to %d, less over %d", h, pass, i, k, third)
					}
				}
			}
		}
	}
}

func TestPassBetweenACellAndItselfIsItsHeight(t *testing.T) {
	for _, h := range passGrids() {
		for i := range cellsOf(h) {
			if got := impl.PassBetween(h, i, i); got != heightAt(h, i) {
				t.Fatalf("PassBetween(%v, %d, %d) = %d, not %d", h, i, i, got, heightAt(h, i))
			}
		}
	}
}

func TestPromise20WatersComeTogetherAsTheyKeepApart(t *testing.T) {
	for _, h := range passGrids() {
		merges := impl.MergesOf(h)
		if want := mergesByFloods(h); !equalRows(merges, want) {
			t.Fatalf("MergesOf(%v) = %v, not %v", h, merges, want)
		}
		pits, keeps := impl.PitsOf(h), impl.KeepsOf(h)
		if len(merges) != len(pits)-1 || len(keeps) != len(pits) {
			t.Fatalf("MergesOf(%v) = %v, with PitsOf %v and KeepsOf %v", h, merges, pits, keeps)
		}
		for _, m := range merges {
			n := slices.Index(pits, m[0])
			if n < 0 || keeps[n] != m[2]-heightAt(h, m[0]) {
				t.Fatalf("MergesOf(%v) = %v, with %v not as PitsOf %v and KeepsOf %v", h, merges, m, pits, keeps)
			}
		}
	}
}

func TestPromise21OnePitKeepsForEver(t *testing.T) {
	for _, h := range passGrids() {
		keeps := impl.KeepsOf(h)
		if want := keepsByLevels(h); !slices.Equal(keeps, want) {
			t.Fatalf("KeepsOf(%v) = %v, not %v", h, keeps, want)
		}
		heights := slices.Concat(h...)
		lowest := slices.Index(heights, slices.Min(heights))
		for n, pit := range impl.PitsOf(h) {
			if pit == lowest && keeps[n] != -1 || pit != lowest && keeps[n] <= 0 {
				t.Fatalf("KeepsOf(%v) = %v, with the lowest cell %d", h, keeps, lowest)
			}
		}
	}
}

func TestPromise22PeaksStandOutAsPitsKeep(t *testing.T) {
	for _, h := range passGrids() {
		stands := impl.StandsOf(h)
		if want := standsByLevels(h); !slices.Equal(stands, want) {
			t.Fatalf("StandsOf(%v) = %v, not %v", h, stands, want)
		}
		if keeps := impl.KeepsOf(upsideDown(h)); !slices.Equal(stands, keeps) {
			t.Fatalf("StandsOf(%v) = %v, but KeepsOf upside down %v", h, stands, keeps)
		}
		if peaks := impl.PeaksOf(h); len(stands) != len(peaks) {
			t.Fatalf("StandsOf(%v) = %v, but PeaksOf %v", h, stands, peaks)
		}
	}
}

func TestPromise70PassesAreOverWhatKeepsApart(t *testing.T) {
	for _, h := range passGrids() {
		pits, keeps := impl.PitsOf(h), impl.KeepsOf(h)
		for n := range pits {
			for m := range n {
				later, kept := pits[n], keeps[n]
				if isBefore(h, pits[n], pits[m]) {
					later, kept = pits[m], keeps[m]
				}
				if pass := impl.PassBetween(h, pits[n], pits[m]); pass < heightAt(h, later)+kept {
					t.Fatalf("PassBetween(%v, %d, %d) = %d, but %d keeps %d", h, pits[n], pits[m], pass, later, kept)
				}
			}
		}
	}
}

func TestSpanOfIsToldByLevels(t *testing.T) {
	for _, h := range passGrids() {
		if got, want := impl.SpanOf(h), spanByLevels(h); got != want {
			t.Fatalf("SpanOf(%v) = %d, not %d", h, got, want)
		}
	}
}

func TestNoWatersComeTogetherOnRowsThatAreNoGrid(t *testing.T) {
	for what, h := range badGrids() {
		before := cloneRows(h)
		if got := impl.MergesOf(h); len(got) != 0 {
			t.Errorf("%s: MergesOf = %v", what, got)
		}
		if got := impl.KeepsOf(h); len(got) != 0 {
			t.Errorf("%s: KeepsOf = %v", what, got)
		}
		if got := impl.StandsOf(h); len(got) != 0 {
			t.Errorf("%s: StandsOf = %v", what, got)
		}
		if got := impl.SpanOf(h); got != -1 {
			t.Errorf("%s: SpanOf = %d, not -1", what, got)
		}
		for _, cells := range [][2]int{{0, 0}, {0, 1}, {1, 0}, {-1, -1}, {30, 30}} {
			if got := impl.PassBetween(h, cells[0], cells[1]); got != -1 {
				t.Errorf("%s: PassBetween %v = %d, not -1", what, cells, got)
			}
		}
		if !equalRows(h, before) {
			t.Errorf("%s: changed to %v", what, h)
		}
	}
}

func TestNoPassIsBetweenCellsThatAreNotInTheGrid(t *testing.T) {
	for _, h := range passGrids() {
		last := cellsOf(h) - 1
		for _, i := range badCells(h) {
			for _, cells := range [][2]int{{i, 0}, {0, i}, {i, last}, {last, i}, {i, i}, {i, -1}} {
				if got := impl.PassBetween(h, cells[0], cells[1]); got != -1 {
					t.Fatalf("PassBetween(%v, %d, %d) = %d, not -1", h, cells[0], cells[1], got)
				}
			}
		}
	}
}

func TestResultsOfPassesAreTheirOwn(t *testing.T) {
	checkGridToRows(t, "MergesOf", impl.MergesOf)
	checkGridToList(t, "KeepsOf", impl.KeepsOf)
	checkGridToList(t, "StandsOf", impl.StandsOf)
	for _, h := range passGrids() {
		before := cloneRows(h)
		impl.PassBetween(h, 0, cellsOf(h)/2)
		impl.SpanOf(h)
		if !equalRows(h, before) {
			t.Fatalf("PassBetween or SpanOf changed %v to %v", before, h)
		}
	}
}
