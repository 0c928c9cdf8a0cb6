package tests

import (
	"slices"
	"testing"

	"loop.example/wateronheights/impl"
)

// besideByPlace is AroundOf told by rows and columns: what stands one step above, left, right and below.
func besideByPlace(h [][]int, i int) []int {
	columns := len(h[0])
	r, c := i/columns, i%columns
	var cells []int
	if r > 0 {
		cells = append(cells, i-columns)
	}
	if c > 0 {
		cells = append(cells, i-1)
	}
	if c < columns-1 {
		cells = append(cells, i+1)
	}
	if r < len(h)-1 {
		cells = append(cells, i+columns)
	}
	return cells
}

// flatsByLabels is FlatsOf told by labels: each cell takes the least one of its flat until none changes.
func flatsByLabels(h [][]int) [][]int {
	columns := len(h[0])
	labels := cloneRows(h)
	for i := range cellsOf(h) {
		labels[i/columns][i%columns] = i
	}
	for changed := true; changed; {
		changed = false
		for i := range cellsOf(h) {
			for _, k := range besideByPlace(h, i) {
				if heightAt(h, k) == heightAt(h, i) && heightAt(labels, k) < heightAt(labels, i) {
					labels[i/columns][i%columns] = heightAt(labels, k)
					changed = true
				}
			}
		}
	}
	return labels
}

// extremesByLabels returns the first cells of the flats that no cell beside them is higher than (sign 1) or lower than (sign -1).
func extremesByLabels(h [][]int, sign int) []int {
	labels := flatsByLabels(h)
	var cells []int
	for first := range cellsOf(h) {
		extreme := heightAt(labels, first) == first
		for i := range cellsOf(h) {
			for _, k := range besideByPlace(h, i) {
				if heightAt(labels, i) == first && sign*(heightAt(h, k)-heightAt(h, i)) > 0 {
					extreme = false
				}
			}
		}
		if extreme {
			cells = append(cells, first)
		}
	}
	return cells
}

func TestPromise1GridsMayBeTurned(t *testing.T) {
	for _, h := range sampleGrids() {
		backwards := cloneRows(h)
		slices.Reverse(backwards)
		if !impl.ValidGrid(h) || !impl.ValidGrid(turned(h)) || !impl.ValidGrid(upsideDown(h)) || !impl.ValidGrid(backwards) {
			t.Fatalf("ValidGrid does not hold of %v, turned or upside down", h)
		}
	}
}

func TestValidGridAtItsLimits(t *testing.T) {
	for side := 1; side <= impl.MaxSide; side++ {
		for _, height := range []int{0, impl.MaxHeight} {
			constant := func() int { return height }
			if !impl.ValidGrid(gridOf(side, impl.MaxSide, constant)) || !impl.ValidGrid(gridOf(impl.MaxSide, side, constant)) {
				t.Errorf("ValidGrid does not hold of the side %d and the height %d", side, height)
			}
		}
	}
	if impl.MaxSide != 5 || impl.MaxHeight != 12 {
		t.Errorf("limits %d and %d", impl.MaxSide, impl.MaxHeight)
	}
}

func TestRowsThatAreNoGrid(t *testing.T) {
	for what, h := range badGrids() {
		before := cloneRows(h)
		if impl.ValidGrid(h) {
			t.Errorf("%s: ValidGrid holds", what)
		}
		if got := impl.FlatsOf(h); len(got) != 0 {
			t.Errorf("%s: FlatsOf = %v", what, got)
		}
		if got := impl.PeaksOf(h); len(got) != 0 {
			t.Errorf("%s: PeaksOf = %v", what, got)
		}
		if got := impl.PitsOf(h); len(got) != 0 {
			t.Errorf("%s: PitsOf = %v", what, got)
		}
		for _, i := range []int{-1, 0, 1, 30} {
			if got := impl.AroundOf(h, i); len(got) != 0 {
				t.Errorf("%s: AroundOf %d = %v", what, i, got)
			}
			if impl.OnEdge(h, i) {
				t.Errorf("%s: OnEdge holds of %d", what, i)
			}
		}
		if !equalRows(h, before) {
			t.Errorf("%s: changed to %v", what, h)
		}
	}
}

func TestCellsThatAreNotInTheGrid(t *testing.T) {
	for _, h := range sampleGrids() {
		for _, i := range badCells(h) {
			if got := impl.AroundOf(h, i); len(got) != 0 {
				t.Fatalf("AroundOf(%v, %d) = %v", h, i, got)
			}
			if impl.OnEdge(h, i) {
				t.Fatalf("OnEdge(%v, %d) holds", h, i)
			}
		}
	}
}

func TestPromise2BesideBothWays(t *testing.T) {
	for _, h := range sampleGrids() {
		for i := range cellsOf(h) {
			around := impl.AroundOf(h, i)
			if !slices.Equal(around, besideByPlace(h, i)) {
				t.Fatalf("AroundOf(%v, %d) = %v, not %v", h, i, around, besideByPlace(h, i))
			}
			for _, k := range around {
				if !slices.Contains(impl.AroundOf(h, k), i) {
					t.Fatalf("%v: %d is beside %d, but not the other way", h, k, i)
				}
			}
		}
	}
}

func TestAroundOfInOrder(t *testing.T) {
	three := [][]int{{1, 2, 3, 4}, {5, 6, 7, 8}, {9, 10, 11, 12}}
	for _, c := range []struct {
		h    [][]int
		i    int
		want []int
	}{
		{three, 5, []int{1, 4, 6, 9}},
		{three, 0, []int{1, 4}},
		{three, 3, []int{2, 7}},
		{three, 4, []int{0, 5, 8}},
		{three, 7, []int{3, 6, 11}},
		{three, 8, []int{4, 9}},
		{three, 11, []int{7, 10}},
		{[][]int{{3}}, 0, nil},
		{[][]int{{3, 1}}, 0, []int{1}},
		{[][]int{{3, 1}}, 1, []int{0}},
		{[][]int{{3, 1, 4, 1, 5}}, 2, []int{1, 3}},
		{[][]int{{3}, {1}, {4}, {1}, {5}}, 2, []int{1, 3}},
		{[][]int{{3}, {1}, {4}, {1}, {5}}, 4, []int{3}},
	} {
		if got := impl.AroundOf(c.h, c.i); !slices.Equal(got, c.want) {
			t.Errorf("AroundOf(%v, %d) = %v, not %v", c.h, c.i, got, c.want)
		}
	}
}

func TestPromise3FewCellsAreBesideTheEdge(t *testing.T) {
	for _, h := range sampleGrids() {
		rows, columns := len(h), len(h[0])
		for i := range cellsOf(h) {
			r, c := i/columns, i%columns
			edge := r == 0 || c == 0 || r == rows-1 || c == columns-1
			few := len(impl.AroundOf(h, i)) < 4
			if got := impl.OnEdge(h, i); got != edge || got != few {
				t.Fatalf("OnEdge(%v, %d) = %v", h, i, got)
			}
		}
	}
}

func TestPromise4FlatsAreOfOneHeight(t *testing.T) {
	for _, h := range sampleGrids() {
		flats := impl.FlatsOf(h)
		if want := flatsByLabels(h); !equalRows(flats, want) {
			t.Fatalf("FlatsOf(%v) = %v, not %v", h, flats, want)
		}
		for i := range cellsOf(h) {
			first := heightAt(flats, i)
			if first > i || heightAt(h, first) != heightAt(h, i) {
				t.Fatalf("FlatsOf(%v): the cell %d has %d", h, i, first)
			}
			for _, k := range impl.AroundOf(h, i) {
				if heightAt(h, k) == heightAt(h, i) && heightAt(flats, k) != first {
					t.Fatalf("FlatsOf(%v): the cells %d and %d differ", h, i, k)
				}
			}
		}
	}
}

func TestFlatsOfBentFlats(t *testing.T) {
	for _, c := range []struct{ h, want [][]int }{
		{[][]int{{7}}, [][]int{{0}}},
		{[][]int{{0, 0, 1, 0}}, [][]int{{0, 0, 2, 3}}},
		{[][]int{{2}, {2}, {0}, {2}}, [][]int{{0}, {0}, {2}, {3}}},
		{[][]int{{0, 1}, {1, 0}}, [][]int{{0, 1}, {2, 3}}},
		{[][]int{{1, 0, 1}, {1, 1, 1}}, [][]int{{0, 1, 0}, {0, 0, 0}}},
		{[][]int{{0, 1, 0}, {1, 1, 0}, {0, 0, 0}}, [][]int{{0, 1, 2}, {1, 1, 2}, {2, 2, 2}}},
		{[][]int{{12, 12}, {12, 12}}, [][]int{{0, 0}, {0, 0}}},
	} {
		if got := impl.FlatsOf(c.h); !equalRows(got, c.want) {
			t.Errorf("FlatsOf(%v) = %v, not %v", c.h, got, c.want)
		}
	}
}

func TestPromise5PeaksArePitsUpsideDown(t *testing.T) {
	for _, h := range sampleGrids() {
		peaks := impl.PeaksOf(h)
		if want := extremesByLabels(h, 1); !slices.Equal(peaks, want) {
			t.Fatalf("PeaksOf(%v) = %v, not %v", h, peaks, want)
		}
		if pits := impl.PitsOf(upsideDown(h)); !slices.Equal(peaks, pits) {
			t.Fatalf("PeaksOf(%v) = %v, but pits upside down %v", h, peaks, pits)
		}
		highest := slices.Max(slices.Concat(h...))
		for i := range cellsOf(h) {
			if heightAt(h, i) == highest && !slices.Contains(peaks, heightAt(impl.FlatsOf(h), i)) {
				t.Fatalf("PeaksOf(%v) = %v has not the flat of the highest cell %d", h, peaks, i)
			}
		}
	}
}

func TestPromise6TheLowestCellIsInAPit(t *testing.T) {
	for _, h := range sampleGrids() {
		pits := impl.PitsOf(h)
		if want := extremesByLabels(h, -1); !slices.Equal(pits, want) {
			t.Fatalf("PitsOf(%v) = %v, not %v", h, pits, want)
		}
		flats := impl.FlatsOf(h)
		lowest := slices.Min(slices.Concat(h...))
		for i := range cellsOf(h) {
			if heightAt(h, i) == lowest && !slices.Contains(pits, heightAt(flats, i)) {
				t.Fatalf("PitsOf(%v) = %v has not the flat of the lowest cell %d", h, pits, i)
			}
		}
		for n, pit := range pits {
			if heightAt(flats, pit) != pit || n > 0 && pits[n-1] >= pit {
				t.Fatalf("PitsOf(%v) = %v: not first cells, ascending", h, pits)
			}
		}
	}
}

func TestPeaksAndPits(t *testing.T) {
	for _, c := range []struct {
		h           [][]int
		peaks, pits []int
	}{
		{[][]int{{4}}, []int{0}, []int{0}},
		{[][]int{{4, 4, 4}}, []int{0}, []int{0}},
		{[][]int{{0, 0}, {0, 0}}, []int{0}, []int{0}},
		{[][]int{{1, 2, 3}}, []int{2}, []int{0}},
		{[][]int{{3}, {2}, {2}, {3}}, []int{0, 3}, []int{1}},
		{[][]int{{2, 2, 1, 1, 2}}, []int{0, 4}, []int{2}},
		{[][]int{{1, 2, 2, 3}}, []int{3}, []int{0}},
		{[][]int{{0, 1}, {1, 0}}, []int{1, 2}, []int{0, 3}},
		{[][]int{{5, 5, 5}, {5, 1, 5}, {5, 5, 5}}, []int{0}, []int{4}},
		{[][]int{{3, 5, 3}, {5, 5, 9}, {3, 5, 5}}, []int{5}, []int{0, 2, 6}},
	} {
		if got := impl.PeaksOf(c.h); !slices.Equal(got, c.peaks) {
			t.Errorf("PeaksOf(%v) = %v, not %v", c.h, got, c.peaks)
		}
		if got := impl.PitsOf(c.h); !slices.Equal(got, c.pits) {
			t.Errorf("PitsOf(%v) = %v, not %v", c.h, got, c.pits)
		}
	}
}

func TestResultsOfGridsAreTheirOwn(t *testing.T) {
	checkGridToRows(t, "FlatsOf", impl.FlatsOf)
	checkGridToList(t, "PeaksOf", impl.PeaksOf)
	checkGridToList(t, "PitsOf", impl.PitsOf)
	checkGridToList(t, "AroundOf", func(h [][]int) []int { return impl.AroundOf(h, cellsOf(h)/2) })
	for _, h := range sampleGrids() {
		before := cloneRows(h)
		impl.ValidGrid(h)
		impl.OnEdge(h, 0)
		if !equalRows(h, before) {
			t.Fatalf("ValidGrid or OnEdge changed %v to %v", before, h)
		}
	}
}
