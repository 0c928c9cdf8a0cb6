package impl

import "slices"

// MaxSide is the largest number of rows and of columns of a grid.
const MaxSide = 5

// MaxHeight is the greatest height.
const MaxHeight = 12

// place is the row and the column of a cell.
type place [2]int

// steps lead to the places beside one, in the order in which AroundOf lists them.
var steps = [4]place{{-1, 0}, {0, -1}, {0, 1}, {1, 0}}

// ValidGrid reports whether rows are a grid.
func ValidGrid(h [][]int) bool {
	return validRows(h, MaxSide, MaxHeight)
}

// validRows reports whether there is at least one row, and at most so many, all of as many numbers, for which the same
// holds, in 0 up to the greatest one.
func validRows(rows [][]int, side, greatest int) bool {
	if len(rows) < 1 || len(rows) > side {
		return false
	}
	for _, row := range rows {
		if len(row) != len(rows[0]) || !validNumbers(row, side, greatest) {
			return false
		}
	}
	return true
}

// validNumbers reports whether there is at least one number, and at most so many, all of them in 0 up to the greatest one.
func validNumbers(numbers []int, most, greatest int) bool {
	if len(numbers) < 1 || len(numbers) > most {
		return false
	}
	for _, number := range numbers {
		if number < 0 || number > greatest {
			return false
		}
	}
	return true
}

// AroundOf returns the cells beside one.
func AroundOf(h [][]int, i int) []int {
	if !validCell(h, i) {
		return nil
	}
	return cellsBeside(h, i)
}

// OnEdge reports whether a cell is at the edge of a grid.
func OnEdge(h [][]int, i int) bool {
	return validCell(h, i) && atEdge(h, i)
}

func validCell(h [][]int, i int) bool {
	return ValidGrid(h) && i >= 0 && i < len(h)*len(h[0])
}

// atEdge is OnEdge without its checks, for callers that have made them.
func atEdge(h [][]int, i int) bool {
	return len(cellsBeside(h, i)) < len(steps)
}

// cellsBeside is AroundOf without its checks, for callers that have made them.
func cellsBeside(h [][]int, i int) []int {
	var cells []int
	for _, step := range steps {
		if k, inside := cellAfter(h, i, step); inside {
			cells = append(cells, k)
		}
	}
	return cells
}

// cellAfter returns the cell to which a step leads from one of a valid grid, and whether there is one.
func cellAfter(h [][]int, i int, step place) (int, bool) {
	columns := len(h[0])
	to := place{i/columns + step[0], i%columns + step[1]}
	if to != nearestInside(h, to) {
		return 0, false
	}
	return to[0]*columns + to[1], true
}

// cellsWhere returns the cells of a valid grid of which something holds, ascending.
func cellsWhere(h [][]int, holds func(i int) bool) []int {
	var cells []int
	for i := range len(h) * len(h[0]) {
		if holds(i) {
			cells = append(cells, i)
		}
	}
	return cells
}

// nearestInside moves a place only if it is outside the grid, so one that stays equal is inside.
func nearestInside(h [][]int, to place) place {
	return place{
		min(max(to[0], 0), len(h)-1),
		min(max(to[1], 0), len(h[0])-1),
	}
}

// FlatsOf returns for each cell the first cell of its flat.
func FlatsOf(h [][]int) [][]int {
	if !ValidGrid(h) {
		return nil
	}
	return inRows(firstsOf(h), len(h[0]))
}

// firstsOf returns for each cell of a valid grid the first cell of its flat, in one list.
func firstsOf(h [][]int) []int {
	heights := slices.Concat(h...)
	return firstsOfPieces(h, cellsBeside, func(i, k int) bool { return heights[i] == heights[k] })
}

// firstsOfPieces returns for each cell of a valid grid the first cell that is reached from it
// over cells near each other that are joined, in one list; near and joined must hold both ways.
func firstsOfPieces(h [][]int, near func(h [][]int, i int) []int, joined func(i, k int) bool) []int {
	const unmet = -1
	firsts := slices.Repeat([]int{unmet}, len(h)*len(h[0]))
	for first := range firsts {
		if firsts[first] != unmet {
			continue
		}
		firsts[first] = first
		met := []int{first}
		for n := 0; n < len(met); n++ {
			for _, k := range near(h, met[n]) {
				if firsts[k] == unmet && joined(met[n], k) {
					firsts[k] = first
					met = append(met, k)
				}
			}
		}
	}
	return firsts
}

// inRows copies each row, since rows of a result share no memory.
func inRows(list []int, columns int) [][]int {
	var rows [][]int
	for row := range slices.Chunk(list, columns) {
		rows = append(rows, slices.Clone(row))
	}
	return rows
}

// PeaksOf returns the flats with no higher cell beside.
func PeaksOf(h [][]int) []int {
	return flatsWithout(h, func(beside, own int) bool { return beside > own })
}

// PitsOf returns the flats with no lower cell beside.
func PitsOf(h [][]int) []int {
	return flatsWithout(h, func(beside, own int) bool { return beside < own })
}

// flatsWithout returns the first cells of the flats that have no cell beside them which beats their height.
func flatsWithout(h [][]int, beats func(beside, own int) bool) []int {
	if !ValidGrid(h) {
		return nil
	}
	heights := slices.Concat(h...)
	firsts := firstsOf(h)
	beaten := make([]bool, len(heights))
	for i, first := range firsts {
		for _, k := range cellsBeside(h, i) {
			if beats(heights[k], heights[i]) {
				beaten[first] = true
			}
		}
	}
	return cellsWhere(h, func(i int) bool { return firsts[i] == i && !beaten[i] })
}
