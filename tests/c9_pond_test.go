package tests

import (
	"cmp"
	"math"
	"runtime"
	"slices"
	"sync"
	"testing"

	"loop.example/wateronheights/impl"
)

// pond is how many cells a pond has up to a level, and how much water.
type pond struct{ level, cells, water int }

// held is up to which level so much water comes.
type held struct{ n, level int }

// pondCase is a cell of a grid with some of its ponds and levels, written out.
type pondCase struct {
	name   string
	h      [][]int
	cell   int
	ponds  []pond
	levels []held
}

func pondCases() []pondCase {
	return slices.Concat(oneCellPondCases(), oneHeightPondCases(), rowPondCases(), cornerPondCases(), edgePondCases(), joinedPondCases())
}

func oneCellPondCases() []pondCase {
	return []pondCase{
		{"one cell", [][]int{{7}}, 0,
			[]pond{{0, 0, 0}, {1, 0, 0}, {6, 0, 0}, {7, 0, 0}, {8, 1, 1}, {9, 1, 2}, {11, 1, 4}, {12, 1, 5}},
			[]held{{0, 7}, {1, 8}, {2, 9}, {4, 11}, {5, 12}, {6, 12}, {1000, 12}, {math.MaxInt, 12}}},
		{"one cell of height 0", [][]int{{0}}, 0,
			[]pond{{0, 0, 0}, {1, 1, 1}, {2, 1, 2}, {12, 1, 12}}, []held{{0, 0}, {1, 1}, {11, 11}, {12, 12}, {13, 12}}},
		{"one cell of height 1", [][]int{{1}}, 0,
			[]pond{{0, 0, 0}, {1, 0, 0}, {2, 1, 1}, {12, 1, 11}}, []held{{0, 1}, {1, 2}, {10, 11}, {11, 12}}},
		{"one cell below the greatest height", [][]int{{11}}, 0,
			[]pond{{0, 0, 0}, {10, 0, 0}, {11, 0, 0}, {12, 1, 1}}, []held{{0, 11}, {1, 12}, {2, 12}}},
		{"one cell of the greatest height", [][]int{{12}}, 0,
			[]pond{{0, 0, 0}, {11, 0, 0}, {12, 0, 0}}, []held{{0, 12}, {1, 12}, {math.MaxInt, 12}}},
	}
}

func oneHeightPondCases() []pondCase {
	return []pondCase{
		{"all of height 0", constantRows(5, 5, 0), 12,
			[]pond{{0, 0, 0}, {1, 25, 25}, {2, 25, 50}, {12, 25, 300}},
			[]held{{0, 0}, {24, 0}, {25, 1}, {26, 1}, {49, 1}, {50, 2}, {299, 11}, {300, 12}, {301, 12}}},
		{"all of one height", constantRows(5, 5, 4), 0,
			[]pond{{0, 0, 0}, {3, 0, 0}, {4, 0, 0}, {5, 25, 25}, {12, 25, 200}}, []held{{0, 4}, {24, 4}, {25, 5}, {199, 11}, {200, 12}, {201, 12}}},
		{"all of the greatest height", constantRows(5, 5, 12), 24,
			[]pond{{0, 0, 0}, {11, 0, 0}, {12, 0, 0}}, []held{{0, 12}, {1, 12}, {1000, 12}}},
		{"one row of one height", constantRows(1, 5, 3), 4,
			[]pond{{2, 0, 0}, {3, 0, 0}, {4, 5, 5}, {12, 5, 45}}, []held{{0, 3}, {4, 3}, {5, 4}, {44, 11}, {45, 12}}},
		{"one column of one height", constantRows(5, 1, 3), 2,
			[]pond{{2, 0, 0}, {3, 0, 0}, {4, 5, 5}, {12, 5, 45}}, []held{{0, 3}, {4, 3}, {5, 4}, {44, 11}, {45, 12}}},
	}
}

func rowPondCases() []pondCase {
	ridge := [][]int{{1, 3, 0, 5, 2}}
	return []pondCase{
		{"the first cell of a row", ridge, 0,
			[]pond{{1, 0, 0}, {2, 1, 1}, {3, 1, 2}, {4, 3, 8}, {5, 3, 11}, {6, 5, 19}, {12, 5, 49}},
			[]held{{0, 1}, {1, 2}, {2, 3}, {7, 3}, {8, 4}, {10, 4}, {11, 5}, {18, 5}, {19, 6}, {48, 11}, {49, 12}}},
		{"a cell inside a row", ridge, 2,
			[]pond{{0, 0, 0}, {1, 1, 1}, {3, 1, 3}, {4, 3, 8}, {6, 5, 19}}, []held{{0, 0}, {3, 3}, {7, 3}, {8, 4}}},
		{"a pass of a row", ridge, 1, []pond{{2, 0, 0}, {3, 0, 0}, {4, 3, 8}, {5, 3, 11}}, []held{{0, 3}, {7, 3}, {8, 4}}},
		{"the last cell of a row", ridge, 4, []pond{{2, 0, 0}, {3, 1, 1}, {5, 1, 3}, {6, 5, 19}}, []held{{0, 2}, {3, 5}, {18, 5}, {19, 6}}},
		{"a cell of a column", turned(ridge), 2,
			[]pond{{0, 0, 0}, {3, 1, 3}, {4, 3, 8}, {5, 3, 11}, {6, 5, 19}}, []held{{0, 0}, {2, 2}, {7, 3}, {8, 4}, {19, 6}}},
	}
}

func cornerPondCases() []pondCase {
	return []pondCase{
		{"two cells that touch at a corner", [][]int{{0, 9}, {9, 0}}, 0,
			[]pond{{1, 1, 1}, {9, 1, 9}, {10, 4, 22}, {12, 4, 30}}, []held{{8, 8}, {9, 9}, {21, 9}, {22, 10}}},
		{"two cells that touch at a corner the other way", [][]int{{9, 2}, {0, 9}}, 1,
			[]pond{{2, 0, 0}, {3, 1, 1}, {9, 1, 7}, {10, 4, 20}}, []held{{0, 2}, {7, 9}, {19, 9}, {20, 10}}},
		{"a cell inside, and four that touch it at corners", [][]int{{0, 8, 0}, {8, 3, 8}, {0, 8, 0}}, 4,
			[]pond{{3, 0, 0}, {4, 1, 1}, {8, 1, 5}, {9, 9, 46}}, []held{{5, 8}, {45, 8}, {46, 9}}},
		{"a row that ends where the next one begins", [][]int{{9, 9, 1}, {1, 9, 9}}, 2,
			[]pond{{2, 1, 1}, {9, 1, 8}, {10, 6, 22}}, []held{{8, 9}, {21, 9}, {22, 10}}},
	}
}

func edgePondCases() []pondCase {
	bowl := [][]int{{5, 5, 5}, {5, 1, 5}, {5, 4, 5}}
	return []pondCase{
		{"a pit with a lower cell at the edge", bowl, 4,
			[]pond{{0, 0, 0}, {1, 0, 0}, {2, 1, 1}, {4, 1, 3}, {5, 2, 5}, {6, 9, 14}, {12, 9, 68}},
			[]held{{0, 1}, {1, 2}, {2, 3}, {3, 4}, {4, 4}, {5, 5}, {13, 5}, {14, 6}, {67, 11}, {68, 12}}},
		{"that cell at the edge", bowl, 7, []pond{{3, 0, 0}, {4, 0, 0}, {5, 2, 5}, {6, 9, 14}}, []held{{0, 4}, {4, 4}, {5, 5}}},
		{"a corner", bowl, 0, []pond{{4, 0, 0}, {5, 0, 0}, {6, 9, 14}}, []held{{0, 5}, {13, 5}, {14, 6}}},
		{"a pond along the edge around a peak", [][]int{{2, 2, 2}, {2, 7, 2}, {2, 2, 2}}, 8,
			[]pond{{2, 0, 0}, {3, 8, 8}, {7, 8, 40}, {8, 9, 49}}, []held{{7, 2}, {8, 3}, {48, 7}, {49, 8}}},
		{"a low edge that a wall parts", [][]int{{1, 6, 1}, {2, 6, 0}, {1, 6, 1}}, 3,
			[]pond{{1, 0, 0}, {2, 0, 0}, {3, 3, 5}, {6, 3, 14}, {7, 9, 39}}, []held{{4, 2}, {5, 3}, {14, 6}, {38, 6}, {39, 7}}},
	}
}

func joinedPondCases() []pondCase {
	inPit := [][]int{{9, 9, 7, 9, 9}, {9, 5, 5, 5, 9}, {9, 5, 1, 5, 9}, {9, 5, 5, 5, 9}, {9, 9, 9, 9, 9}}
	two := [][]int{{9, 9, 9, 9, 9}, {9, 4, 6, 0, 9}, {9, 9, 9, 9, 9}}
	return []pondCase{
		{"a pit in a pit", inPit, 12, []pond{{5, 1, 4}, {6, 9, 13}, {7, 9, 22}, {8, 10, 32}, {9, 10, 42}, {10, 25, 67}},
			[]held{{4, 5}, {12, 5}, {13, 6}, {31, 7}, {66, 9}, {67, 10}}},
		{"the pit around it", inPit, 18, []pond{{5, 0, 0}, {6, 9, 13}, {8, 10, 32}}, []held{{12, 5}, {13, 6}, {22, 7}}},
		{"two pits that become one over a pass", two, 6, []pond{{4, 0, 0}, {5, 1, 1}, {6, 1, 2}, {7, 3, 11}, {9, 3, 17}, {10, 15, 32}},
			[]held{{1, 5}, {2, 6}, {10, 6}, {11, 7}}},
		{"the deeper one of them", two, 8, []pond{{0, 0, 0}, {1, 1, 1}, {6, 1, 6}, {7, 3, 11}}, []held{{0, 0}, {6, 6}, {10, 6}, {11, 7}}},
		{"a winding pond", [][]int{{1, 1, 1, 1, 1}, {9, 9, 9, 9, 1}, {1, 1, 1, 1, 1}, {1, 9, 9, 9, 9}, {1, 1, 1, 1, 1}}, 0,
			[]pond{{1, 0, 0}, {2, 17, 17}, {9, 17, 136}, {10, 25, 161}}, []held{{16, 1}, {17, 2}, {160, 9}, {161, 10}}},
	}
}

// poured is what so many drops leave of a grid: how much higher some of its cells are, and how many run off.
type poured struct {
	n      int
	higher map[int]int
	off    int
}

// pourCase is a cell of a grid with what drops that come to it leave, written out.
type pourCase struct {
	name string
	h    [][]int
	cell int
	want []poured
}

func pourCases() []pourCase {
	return slices.Concat(atOncePourCases(), fullPourCases(), lowestPourCases(), runOverPourCases(), risingFlatCases(), leavingFlatCases(), edgeFlatCases())
}

// runsOff is what is left where each drop runs off at once.
func runsOff() []poured {
	return []poured{{0, nil, 0}, {1, nil, 1}, {2, nil, 2}, {impl.MaxDrops, nil, impl.MaxDrops}}
}

func atOncePourCases() []pourCase {
	return []pourCase{
		{"one cell", [][]int{{7}}, 0, runsOff()},
		{"one cell of height 0", [][]int{{0}}, 0, runsOff()},
		{"one cell of the greatest height", [][]int{{12}}, 0, runsOff()},
		{"the lowest cell of a row", [][]int{{9, 0, 9, 1, 9}}, 1, runsOff()},
		{"the highest cell of a row", [][]int{{9, 0, 12, 1, 9}}, 2, runsOff()},
		{"a cell of a column", [][]int{{9}, {0}, {9}, {1}, {9}}, 3, runsOff()},
		{"a row of one height", constantRows(1, 5, 4), 2, runsOff()},
		{"a column of one height", constantRows(5, 1, 4), 2, runsOff()},
		{"two rows", [][]int{{9, 9, 9, 9, 9}, {9, 0, 9, 0, 9}}, 2, runsOff()},
		{"two columns", [][]int{{9, 9}, {0, 9}, {9, 1}, {9, 9}}, 3, runsOff()},
		{"the middle of all of height 0", constantRows(5, 5, 0), 12, runsOff()},
		{"the middle of all of one height", constantRows(5, 5, 7), 12, runsOff()},
		{"the middle of all of the greatest height", constantRows(5, 5, 12), 12, runsOff()},
		{"a corner of one height", constantRows(5, 5, 7), 24, runsOff()},
		{"a peak", [][]int{{1, 1, 1}, {1, 8, 1}, {1, 1, 1}}, 4, runsOff()},
		{"the edge beside no pit", [][]int{{5, 5, 5}, {5, 1, 5}, {5, 4, 5}}, 0, runsOff()},
		{"the lower cell at the edge that is beside no lower one", [][]int{{5, 5, 5}, {5, 6, 5}, {5, 4, 5}}, 7, runsOff()},
		{"a flat way off", [][]int{{9, 9, 9}, {9, 4, 9}, {9, 4, 9}}, 4, runsOff()},
		{"a slope", [][]int{{4, 3, 2}, {3, 2, 1}, {2, 1, 0}}, 0, runsOff()},
	}
}

func fullPourCases() []pourCase {
	deep := constantRows(5, 5, 12)
	for _, row := range deep[1:4] {
		clear(row[1:4])
	}
	return []pourCase{
		{"a pit that fills and runs over", [][]int{{5, 5, 5}, {5, 1, 5}, {5, 4, 5}}, 4, []poured{
			{0, nil, 0}, {1, map[int]int{4: 1}, 0}, {2, map[int]int{4: 2}, 0}, {3, map[int]int{4: 3}, 0},
			{4, map[int]int{4: 3}, 1}, {5, map[int]int{4: 3}, 2}, {60, map[int]int{4: 3}, 57}}},
		{"the edge beside a pit", [][]int{{5, 5, 5}, {5, 1, 5}, {5, 4, 5}}, 1, []poured{
			{0, nil, 0}, {1, map[int]int{4: 1}, 0}, {3, map[int]int{4: 3}, 0}, {4, map[int]int{4: 3}, 1}, {60, map[int]int{4: 3}, 57}}},
		{"the lower cell at the edge beside a pit", [][]int{{5, 5, 5}, {5, 1, 5}, {5, 4, 5}}, 7, []poured{
			{1, map[int]int{4: 1}, 0}, {3, map[int]int{4: 3}, 0}, {4, map[int]int{4: 3}, 1}}},
		{"a pit of height 0 that fills to the greatest height", [][]int{{12, 12, 12}, {12, 0, 12}, {12, 12, 12}}, 4, []poured{
			{1, map[int]int{4: 1}, 0}, {11, map[int]int{4: 11}, 0}, {12, map[int]int{4: 12}, 0}, {13, map[int]int{4: 12}, 1}, {60, map[int]int{4: 12}, 48}}},
		{"a pit that is full", [][]int{{5, 5, 5}, {5, 5, 5}, {5, 5, 6}}, 4, runsOff()},
		{"the most drops, all of which stay", deep, 12, []poured{
			{1, map[int]int{6: 1}, 0},
			{4, map[int]int{6: 1, 7: 1, 8: 1, 11: 1}, 0},
			{5, map[int]int{6: 1, 7: 1, 8: 1, 11: 1, 12: 1}, 0},
			{6, map[int]int{6: 1, 7: 1, 8: 1, 11: 1, 12: 1, 13: 1}, 0},
			{9, map[int]int{6: 1, 7: 1, 8: 1, 11: 1, 12: 1, 13: 1, 16: 1, 17: 1, 18: 1}, 0},
			{60, map[int]int{6: 7, 7: 7, 8: 7, 11: 7, 12: 7, 13: 7, 16: 6, 17: 6, 18: 6}, 0}}},
	}
}

func lowestPourCases() []pourCase {
	return []pourCase{
		{"between a low cell and a lower one behind it", [][]int{{9, 9, 9, 9, 9}, {9, 4, 8, 2, 9}, {9, 9, 9, 9, 9}}, 7, []poured{
			{1, map[int]int{8: 1}, 0}, {2, map[int]int{8: 2}, 0}, {3, map[int]int{6: 1, 8: 2}, 0}, {4, map[int]int{6: 1, 8: 3}, 0},
			{10, map[int]int{6: 4, 8: 6}, 0}, {13, map[int]int{6: 5, 7: 1, 8: 7}, 0}, {14, map[int]int{6: 5, 7: 1, 8: 7}, 1}}},
		{"between two cells as low", [][]int{{9, 9, 9, 9, 9}, {9, 2, 8, 2, 9}, {9, 9, 9, 9, 9}}, 7, []poured{
			{1, map[int]int{6: 1}, 0}, {2, map[int]int{6: 1, 8: 1}, 0}, {3, map[int]int{6: 2, 8: 1}, 0}, {12, map[int]int{6: 6, 8: 6}, 0},
			{13, map[int]int{6: 7, 8: 6}, 0}, {14, map[int]int{6: 7, 7: 1, 8: 6}, 0}, {15, map[int]int{6: 7, 7: 1, 8: 7}, 0},
			{16, map[int]int{6: 7, 7: 1, 8: 7}, 1}}},
		{"between two cells as low, one above the other", [][]int{{9, 9, 9}, {9, 2, 9}, {9, 8, 9}, {9, 2, 9}, {9, 9, 9}}, 7, []poured{
			{1, map[int]int{4: 1}, 0}, {2, map[int]int{4: 1, 10: 1}, 0}, {12, map[int]int{4: 6, 10: 6}, 0}, {13, map[int]int{4: 7, 10: 6}, 0}}},
		{"in the middle of four cells as low", [][]int{{9, 9, 9, 9, 9}, {9, 9, 3, 9, 9}, {9, 3, 5, 3, 9}, {9, 9, 3, 9, 9}, {9, 9, 9, 9, 9}}, 12, []poured{
			{1, map[int]int{7: 1}, 0}, {2, map[int]int{7: 1, 11: 1}, 0}, {3, map[int]int{7: 1, 11: 1, 13: 1}, 0},
			{4, map[int]int{7: 1, 11: 1, 13: 1, 17: 1}, 0}, {5, map[int]int{7: 2, 11: 1, 13: 1, 17: 1}, 0}}},
		{"a way down of many cells", [][]int{{9, 8, 7, 9, 9}, {9, 9, 6, 9, 9}, {9, 9, 5, 9, 9}, {9, 2, 3, 4, 9}, {9, 9, 9, 9, 9}}, 0, []poured{
			{1, map[int]int{16: 1}, 0}, {2, map[int]int{16: 2}, 0}, {3, map[int]int{16: 2, 17: 1}, 0}, {4, map[int]int{16: 3, 17: 1}, 0}}},
	}
}

func runOverPourCases() []pourCase {
	return []pourCase{
		{"a pit that runs over into a deeper one, which runs off", [][]int{{9, 9, 9, 9, 9}, {9, 4, 6, 0, 3}, {9, 9, 9, 9, 9}}, 6, []poured{
			{1, map[int]int{6: 1}, 0}, {2, map[int]int{6: 2}, 0}, {3, map[int]int{6: 2, 8: 1}, 0}, {5, map[int]int{6: 2, 8: 3}, 0},
			{6, map[int]int{6: 2, 8: 3}, 1}, {60, map[int]int{6: 2, 8: 3}, 55}}},
		{"a pit that runs over into another one, and both into one lake", [][]int{{9, 9, 9, 9, 9}, {9, 4, 6, 3, 9}, {9, 9, 9, 9, 9}}, 6, []poured{
			{2, map[int]int{6: 2}, 0}, {3, map[int]int{6: 2, 8: 1}, 0}, {5, map[int]int{6: 2, 8: 3}, 0},
			{6, map[int]int{6: 3, 8: 3}, 0}, {7, map[int]int{6: 3, 7: 1, 8: 3}, 0}, {8, map[int]int{6: 3, 7: 1, 8: 4}, 0},
			{9, map[int]int{6: 4, 7: 1, 8: 4}, 0}, {12, map[int]int{6: 5, 7: 2, 8: 5}, 0}, {13, map[int]int{6: 5, 7: 3, 8: 5}, 0}, {14, map[int]int{6: 5, 7: 3, 8: 5}, 1}}},
		{"a pit in a pit", [][]int{{9, 9, 7, 9, 9}, {9, 5, 5, 5, 9}, {9, 5, 1, 5, 9}, {9, 5, 5, 5, 9}, {9, 9, 9, 9, 9}}, 12, []poured{
			{4, map[int]int{12: 4}, 0}, {5, map[int]int{12: 4, 6: 1}, 0}, {9, map[int]int{12: 5, 6: 1, 7: 1, 8: 1, 11: 1}, 0},
			{22, map[int]int{12: 6, 6: 2, 7: 2, 8: 2, 11: 2, 13: 2, 16: 2, 17: 2, 18: 2}, 0},
			{23, map[int]int{12: 6, 6: 2, 7: 2, 8: 2, 11: 2, 13: 2, 16: 2, 17: 2, 18: 2}, 1}}},
	}
}

func risingFlatCases() []pourCase {
	flat := [][]int{{9, 9, 9, 9, 9}, {9, 4, 4, 4, 9}, {9, 9, 9, 9, 9}}
	full := map[int]int{6: 5, 7: 5, 8: 5}
	return []pourCase{
		{"the last cell of a flat that must rise", flat, 8, []poured{
			{1, map[int]int{6: 1}, 0}, {2, map[int]int{6: 1, 7: 1}, 0}, {3, map[int]int{6: 1, 7: 1, 8: 1}, 0},
			{4, map[int]int{6: 2, 7: 1, 8: 1}, 0}, {15, full, 0}, {16, full, 1}}},
		{"its first cell, which has the edge ahead of the rest of the flat", flat, 6, []poured{
			{1, map[int]int{6: 1}, 0}, {2, map[int]int{6: 1, 7: 1}, 0}, {3, map[int]int{6: 1, 7: 1, 8: 1}, 0},
			{14, map[int]int{6: 5, 7: 5, 8: 4}, 0}, {15, map[int]int{6: 5, 7: 5, 8: 4}, 1}}},
		{"its middle", flat, 7, []poured{
			{1, map[int]int{6: 1}, 0}, {2, map[int]int{6: 1, 7: 1}, 0}, {3, map[int]int{6: 1, 7: 1, 8: 1}, 0}, {15, full, 0}, {16, full, 1}}},
		{"a flat whose first cell is not in the first row that drops come to",
			[][]int{{9, 9, 9, 9, 9}, {9, 9, 9, 2, 9}, {9, 2, 2, 2, 9}, {9, 2, 9, 9, 9}, {9, 9, 9, 9, 9}}, 16, []poured{
				{1, map[int]int{8: 1}, 0}, {2, map[int]int{8: 1, 11: 1}, 0}, {3, map[int]int{8: 1, 11: 1, 16: 1}, 0},
				{4, map[int]int{8: 1, 11: 1, 12: 1, 16: 1}, 0}, {5, map[int]int{8: 1, 11: 1, 12: 1, 13: 1, 16: 1}, 0},
				{6, map[int]int{8: 2, 11: 1, 12: 1, 13: 1, 16: 1}, 0}}},
		{"a flat that touches one as high at a corner only",
			[][]int{{9, 9, 9, 9}, {9, 3, 9, 9}, {9, 9, 3, 9}, {9, 9, 9, 9}}, 10, []poured{
				{1, map[int]int{10: 1}, 0}, {6, map[int]int{10: 6}, 0}, {7, map[int]int{10: 6, 5: 1}, 0},
				{12, map[int]int{10: 6, 5: 6}, 0}, {13, map[int]int{10: 6, 5: 6}, 1}}},
	}
}

func leavingFlatCases() []pourCase {
	bothEnds := [][]int{{9, 9, 9, 9, 9}, {9, 5, 5, 5, 9}, {9, 2, 9, 2, 9}, {9, 9, 9, 9, 9}}
	lastEnd := [][]int{{9, 9, 9, 9, 9}, {9, 5, 5, 5, 9}, {9, 9, 9, 2, 9}, {9, 9, 9, 9, 9}}
	behind := [][]int{{9, 9, 9, 9, 9}, {9, 5, 5, 5, 5}, {9, 5, 9, 9, 9}, {9, 1, 9, 9, 9}, {9, 9, 9, 9, 9}}
	full := map[int]int{11: 6, 6: 4, 7: 4, 8: 4, 13: 6}
	return []pourCase{
		{"the middle of a flat with lower cells beside both ends", bothEnds, 7, []poured{
			{1, map[int]int{11: 1}, 0}, {3, map[int]int{11: 3}, 0}, {4, map[int]int{11: 3, 13: 1}, 0}, {6, map[int]int{11: 3, 13: 3}, 0},
			{7, map[int]int{11: 3, 6: 1, 13: 3}, 0}, {24, full, 0}, {25, full, 1}}},
		{"its last cell", bothEnds, 8, []poured{
			{1, map[int]int{13: 1}, 0}, {3, map[int]int{13: 3}, 0}, {4, map[int]int{13: 3, 11: 1}, 0}, {6, map[int]int{13: 3, 11: 3}, 0},
			{7, map[int]int{13: 3, 11: 3, 6: 1}, 0}}},
		{"the middle of a flat with a lower cell beside one end", lastEnd, 7, []poured{
			{1, map[int]int{13: 1}, 0}, {3, map[int]int{13: 3}, 0}, {4, map[int]int{13: 3, 6: 1}, 0}}},
		{"the other end of it", lastEnd, 6, []poured{
			{1, map[int]int{13: 1}, 0}, {3, map[int]int{13: 3}, 0}, {4, map[int]int{13: 3, 6: 1}, 0}, {5, map[int]int{13: 3, 6: 1, 7: 1}, 0}}},
		{"a cell met first behind the first one, and one as near, with a smaller number, behind the next one", behind, 7, []poured{
			{1, map[int]int{16: 1}, 0}, {4, map[int]int{16: 4}, 0}, {5, map[int]int{16: 4}, 1}, {60, map[int]int{16: 4}, 56}}},
		{"a cell as near from which the way off is nearer", behind, 8, runsOff()},
		{"a cell that is nearer than one to which the first way leads", [][]int{{9, 9, 9, 9, 9}, {9, 5, 5, 5, 9}, {9, 5, 9, 5, 9}, {9, 5, 9, 1, 9}, {9, 4, 9, 9, 9}}, 7, []poured{
			{1, map[int]int{18: 1}, 0}, {4, map[int]int{18: 4}, 0}, {5, map[int]int{18: 4}, 1}}},
		{"the lowest one beside the cell that the drops leave by",
			[][]int{{9, 9, 9, 9, 9}, {9, 9, 6, 9, 9}, {9, 7, 7, 3, 9}, {9, 9, 5, 9, 9}, {9, 9, 9, 9, 9}}, 11, []poured{
				{1, map[int]int{13: 1}, 0}, {2, map[int]int{13: 2}, 0}, {3, map[int]int{13: 3}, 0}, {4, map[int]int{13: 3, 17: 1}, 0},
				{5, map[int]int{7: 1, 13: 3, 17: 1}, 0}, {7, map[int]int{7: 1, 13: 4, 17: 2}, 0}, {8, map[int]int{7: 2, 13: 4, 17: 2}, 0}}},
	}
}

func edgeFlatCases() []pourCase {
	return []pourCase{
		{"a flat at the edge", [][]int{{9, 9, 9, 9, 9}, {9, 4, 4, 4, 4}, {9, 9, 9, 9, 9}}, 6, runsOff()},
		{"a flat with a lower cell as near as the edge, met first", [][]int{{9, 9, 9, 9, 9}, {9, 9, 5, 5, 5}, {9, 9, 1, 9, 9}, {9, 9, 9, 9, 9}}, 8, []poured{
			{1, map[int]int{12: 1}, 0}, {4, map[int]int{12: 4}, 0}, {5, map[int]int{12: 4}, 1}}},
		{"a flat with the edge as near as a lower cell, met first", [][]int{{9, 9, 9, 9, 9}, {5, 5, 5, 9, 9}, {9, 9, 1, 9, 9}, {9, 9, 9, 9, 9}}, 6, runsOff()},
		{"a cell at the edge beside one of its flat with a lower one beside it", [][]int{{9, 9, 9, 9, 9}, {5, 5, 5, 9, 9}, {9, 9, 1, 9, 9}, {9, 9, 9, 9, 9}}, 5, runsOff()},
		{"a cell at the edge that leads back inside", [][]int{{9, 5, 3, 2, 9}, {9, 5, 9, 1, 9}, {9, 9, 9, 9, 9}}, 6, []poured{
			{1, map[int]int{8: 1}, 0}, {2, map[int]int{8: 1}, 1}}},
	}
}

// pondGrids returns the grids written out here, those of filled pits, all of few cells and low heights, all of two heights with
// one cell inside, and for each shape some of mixed heights, and some with a high rim that is open at few cells, on which flats are large.
func pondGrids() [][][]int {
	var grids [][][]int
	for _, c := range pondCases() {
		grids = append(grids, c.h)
	}
	for _, c := range pourCases() {
		grids = append(grids, c.h)
	}
	for _, c := range filledCases() {
		grids = append(grids, c.h)
	}
	grids = slices.Concat(grids, everyGrid(1, 3, 3), everyGrid(3, 1, 3), everyGrid(2, 2, 3), everyGrid(3, 3, 2))
	mixed := mixer(9)
	for r := 1; r <= impl.MaxSide; r++ {
		for c := 1; c <= impl.MaxSide; c++ {
			for n := range 8 {
				grids = append(grids, gridOf(r, c, func() int { return mixed([]int{2, 3, 6, impl.MaxHeight + 1}[n%4]) }))
				grids = append(grids, rimmed(r, c, n, mixed))
			}
		}
	}
	return grids
}

// rimmed returns a grid of low heights with a high rim, of which few cells are as low as those inside, the fewer the greater n is.
func rimmed(r, c, n int, mixed func(int) int) [][]int {
	h := gridOf(r, c, func() int { return mixed(2 + n%3) })
	for _, i := range edgeCells(h) {
		if mixed(8) <= n+1 {
			h[i/c][i%c] += 3 + mixed(2+n%5)
		}
	}
	return h
}

// forEachCell checks each cell of each of the grids, until one is wrong.
func forEachCell(t *testing.T, check func(h [][]int, i int) bool) {
	t.Helper()
	for _, h := range pondGrids() {
		for i := range cellsOf(h) {
			if !check(h, i) {
				wet, off := impl.PourAt(h, i, impl.MaxDrops)
				t.Fatalf("%v: of the cell %d PondAt all levels %v, PourAt all drops %v and %d", h, i, pondsOf(h, i), wet, off)
			}
		}
	}
}

func pondAt(h [][]int, i, level int) pond {
	cells, water := impl.PondAt(h, i, level)
	return pond{level, cells, water}
}

// pondsOf returns the ponds of a cell up to each level.
func pondsOf(h [][]int, i int) []pond {
	var ponds []pond
	for level := range impl.MaxHeight + 1 {
		ponds = append(ponds, pondAt(h, i, level))
	}
	return ponds
}

// pondCellsByMerging returns the cells of the pond of a cell up to a level; none if the cell is not lower.
func pondCellsByMerging(h [][]int, i, level int) []int {
	pieces := piecesByMerging(h, haveASideInCommon, func(k int) bool { return heightAt(h, k) < level })
	for _, piece := range pieces {
		if slices.Contains(piece, i) {
			return piece
		}
	}
	return nil
}

// pondsByCells is PondAt of a cell up to each level, told by the cells of pieces that are merged.
func pondsByCells(h [][]int, i int) []pond {
	var ponds []pond
	for level := range impl.MaxHeight + 1 {
		p := pond{level: level}
		for _, k := range pondCellsByMerging(h, i, level) {
			p.cells++
			p.water += level - heightAt(h, k)
		}
		ponds = append(ponds, p)
	}
	return ponds
}

// levelByPonds is LevelFor told by the ponds of a cell up to each level: the last one that holds no more.
func levelByPonds(ponds []pond, n int) int {
	last := -1
	for _, p := range ponds {
		if p.water <= n {
			last = p.level
		}
	}
	return last
}

// waterNumbers returns for a cell what its ponds hold, and numbers around that.
func waterNumbers(ponds []pond) []int {
	numbers := []int{0, 1, 2, 1000, math.MaxInt}
	for _, p := range ponds {
		numbers = append(numbers, max(p.water-1, 0), p.water, p.water+1)
	}
	slices.Sort(numbers)
	return slices.Compact(numbers)
}

// pourState is what is left behind some drops.
type pourState struct {
	wet [][]int
	off int
}

// waysOnFlat returns for each cell of the flat of a cell the way to it, as cells, by which it is met: the shortest one, and of
// several as short the one whose cells come first. Those beside a cell (AroundOf) are in the order of their numbers.
func waysOnFlat(h [][]int, i int) map[int][]int {
	ways := map[int][]int{i: {i}}
	for changed := true; changed; {
		changed = false
		for last := range cellsOf(h) {
			for _, k := range besideByPlace(h, last) {
				if ways[last] == nil || heightAt(h, k) != heightAt(h, i) {
					continue
				}
				way := append(slices.Clone(ways[last]), k)
				if ways[k] == nil || byMeeting(way, ways[k]) < 0 {
					ways[k] = way
					changed = true
				}
			}
		}
	}
	return ways
}

func byMeeting(a, b []int) int {
	return cmp.Or(len(a)-len(b), slices.Compare(a, b))
}

// lowestBeside returns the lowest cell beside one, and whether it is lower.
func lowestBeside(h [][]int, i int) (int, bool) {
	lowest := i
	for _, k := range slices.Backward(besideByPlace(h, i)) {
		if lower := heightAt(h, k) < heightAt(h, i); lower && (lowest == i || heightAt(h, k) <= heightAt(h, lowest)) {
			lowest = k
		}
	}
	return lowest, lowest != i
}

// endByWays returns the cell that a drop which comes to one makes higher, told by all ways on its flat; -1 if it runs off.
func endByWays(h [][]int, i int) int {
	if k, lower := lowestBeside(h, i); lower {
		return endByWays(h, k)
	}
	first := i
	var leaving [][]int
	for k, way := range waysOnFlat(h, i) {
		first = min(first, k)
		if _, lower := lowestBeside(h, k); lower || len(besideByPlace(h, k)) < 4 {
			leaving = append(leaving, way)
		}
	}
	if len(leaving) == 0 {
		return first
	}
	way := slices.MinFunc(leaving, byMeeting)
	if k, lower := lowestBeside(h, way[len(way)-1]); lower {
		return endByWays(h, k)
	}
	return -1
}

// poursByWays is PourAt of no drop, one drop and so on up to MaxDrops, told drop by drop.
func poursByWays(h [][]int, i int) []pourState {
	states := []pourState{{h, 0}}
	for range impl.MaxDrops {
		last := states[len(states)-1]
		next := pourState{cloneRows(last.wet), last.off}
		// Where a drop ran off nothing is changed for the next one.
		end := -1
		if last.off == 0 {
			end = endByWays(last.wet, i)
		}
		if end < 0 {
			next.off++
		} else {
			next.wet[end/len(h[0])][end%len(h[0])]++
		}
		states = append(states, next)
	}
	return states
}

func isPoured(h [][]int, i, n int, want pourState) bool {
	wet, off := impl.PourAt(h, i, n)
	return off == want.off && equalRows(wet, want.wet)
}

func TestPondsThatAreWrittenOut(t *testing.T) {
	for _, c := range pondCases() {
		for _, want := range c.ponds {
			if got := pondAt(c.h, c.cell, want.level); got != want {
				t.Errorf("%s: PondAt %+v, not %+v", c.name, got, want)
			}
		}
		for _, want := range c.levels {
			if got := impl.LevelFor(c.h, c.cell, want.n); got != want.level {
				t.Errorf("%s: LevelFor %d = %d, not %d", c.name, want.n, got, want.level)
			}
		}
	}
}

func TestDropsThatAreWrittenOut(t *testing.T) {
	for _, c := range pourCases() {
		for _, want := range c.want {
			wet := cloneRows(c.h)
			for i, more := range want.higher {
				wet[i/len(wet[0])][i%len(wet[0])] += more
			}
			if !isPoured(c.h, c.cell, want.n, pourState{wet, want.off}) {
				got, off := impl.PourAt(c.h, c.cell, want.n)
				t.Errorf("%s: PourAt of %d drops = %v and %d, not %v and %d", c.name, want.n, got, off, wet, want.off)
			}
		}
	}
}

func TestPondsAreToldByTheirCells(t *testing.T) {
	forEachCell(t, func(h [][]int, i int) bool {
		return slices.Equal(pondsOf(h, i), pondsByCells(h, i))
	})
}

func TestPromise47PondsGrowWithTheirLevel(t *testing.T) {
	forEachCell(t, func(h [][]int, i int) bool {
		ponds := pondsOf(h, i)
		for level := 1; level <= impl.MaxHeight; level++ {
			before, now := ponds[level-1], ponds[level]
			more := now.water - before.water
			if now.cells < before.cells || more < now.cells {
				return false
			}
			if !joinsOtherPond(h, i, level) && more != now.cells {
				return false
			}
		}
		return true
	})
}

// joinsOtherPond reports whether the pond of a cell up to a level has water of another pond up to one level less.
func joinsOtherPond(h [][]int, i, level int) bool {
	before := pondCellsByMerging(h, i, level-1)
	return slices.ContainsFunc(pondCellsByMerging(h, i, level), func(k int) bool {
		return heightAt(h, k) < level-1 && !slices.Contains(before, k)
	})
}

func TestPromise48LevelsHoldWhatTheyHold(t *testing.T) {
	forEachCell(t, func(h [][]int, i int) bool {
		ponds := pondsByCells(h, i)
		for _, n := range waterNumbers(ponds) {
			level := impl.LevelFor(h, i, n)
			if level != levelByPonds(ponds, n) || pondAt(h, i, level).water > n {
				return false
			}
			if level < impl.MaxHeight && pondAt(h, i, level+1).water <= n {
				return false
			}
		}
		return true
	})
}

func TestPromise81LevelsFillWhatTheyHold(t *testing.T) {
	forEachCell(t, func(h [][]int, i int) bool {
		for _, p := range pondsOf(h, i) {
			level := impl.LevelFor(h, i, p.water)
			if level < p.level || pondAt(h, i, level).water != p.water {
				return false
			}
		}
		return true
	})
}

func TestAPondUpToTheLowestLevelsHoldsNothing(t *testing.T) {
	forEachCell(t, func(h [][]int, i int) bool {
		height := heightAt(h, i)
		for level := range height + 1 {
			if pondAt(h, i, level) != (pond{level, 0, 0}) {
				return false
			}
		}
		return impl.LevelFor(h, i, 0) == height && impl.LevelFor(h, i, impl.MaxHeight*cellsOf(h)) == impl.MaxHeight
	})
}

// dropNumbers returns some numbers of drops, other ones for each cell.
func dropNumbers(i int) []int {
	return []int{0, 1, 2, 3 + i%4, 7 + i, 40 + i%20, impl.MaxDrops}
}

func TestDropsAreToldByWays(t *testing.T) {
	forEachCell(t, func(h [][]int, i int) bool {
		states := poursByWays(h, i)
		for _, n := range dropNumbers(i) {
			if !isPoured(h, i, n, states[n]) {
				return false
			}
		}
		return true
	})
}

func TestPromise49NoDropIsLost(t *testing.T) {
	forEachCell(t, func(h [][]int, i int) bool {
		full := filledByLevels(h)
		last := pourState{h, 0}
		for _, n := range dropNumbers(i) {
			wet, off := impl.PourAt(h, i, n)
			if !impl.ValidGrid(wet) || sumOf(wet)-sumOf(h)+off != n || off < last.off {
				return false
			}
			for k := range cellsOf(h) {
				if heightAt(wet, k) < heightAt(last.wet, k) || heightAt(wet, k) > heightAt(full, k) {
					return false
				}
			}
			last = pourState{wet, off}
		}
		return true
	})
}

func TestPromise65WhereDropsRunOffItIsFull(t *testing.T) {
	forEachCell(t, func(h [][]int, i int) bool {
		full := heightAt(impl.FillByQueue(h), i)
		for _, n := range dropNumbers(i) {
			if wet, off := impl.PourAt(h, i, n); off > 0 && heightAt(wet, i) != full {
				return false
			}
		}
		return true
	})
}

func TestPromise66DropsComeOneByOne(t *testing.T) {
	forEachCell(t, func(h [][]int, i int) bool {
		for _, n := range dropNumbers(i) {
			first := n * (i % 5) / 4
			wet, off := impl.PourAt(h, i, first)
			rest, offRest := impl.PourAt(wet, i, n-first)
			if !isPoured(h, i, n, pourState{rest, off + offRest}) {
				return false
			}
		}
		return true
	})
}

func TestNoDropsChangeNothing(t *testing.T) {
	forEachCell(t, func(h [][]int, i int) bool {
		return isPoured(h, i, 0, pourState{h, 0})
	})
}

// On such a grid each cell is at the edge, so no drop stays.
func TestAllDropsRunOffTwoRowsOrColumns(t *testing.T) {
	forEachCell(t, func(h [][]int, i int) bool {
		return min(len(h), len(h[0])) > 2 || isPoured(h, i, impl.MaxDrops, pourState{h, impl.MaxDrops})
	})
}

// What drops leave may be filled by drops at all cells, and then all water of the grid is there.
func TestDropsFillAGrid(t *testing.T) {
	for _, h := range pondGrids() {
		wet := h
		for i := 0; i < cellsOf(h); {
			next, off := impl.PourAt(wet, i, impl.MaxDrops)
			if wet = next; off > 0 {
				i++
			}
		}
		if want := filledByLevels(h); !equalRows(wet, want) {
			t.Fatalf("%v: filled by drops %v, not %v", h, wet, want)
		}
	}
}

func TestLimitOfDrops(t *testing.T) {
	if impl.MaxDrops != 60 {
		t.Errorf("MaxDrops is %d", impl.MaxDrops)
	}
}

func badLevels() []int {
	return []int{-1, -2, impl.MaxHeight + 1, -impl.MaxHeight, 100, math.MinInt, math.MaxInt}
}

func badDrops() []int {
	return []int{-1, -2, impl.MaxDrops + 1, -impl.MaxDrops, 1000, math.MinInt, math.MaxInt}
}

func badWaters() []int {
	return []int{-1, -2, -1000, math.MinInt}
}

// checkNoPond checks that there is no pond of a cell up to some levels, and no level for some waters.
func checkNoPond(t *testing.T, what string, h [][]int, i int, levels, waters []int) {
	t.Helper()
	for _, level := range levels {
		if got, want := pondAt(h, i, level), (pond{level, -1, -1}); got != want {
			t.Errorf("%s: %v, cell %d: PondAt %+v, not %+v", what, h, i, got, want)
		}
	}
	for _, n := range waters {
		if got := impl.LevelFor(h, i, n); got != -1 {
			t.Errorf("%s: %v, cell %d: LevelFor %d = %d, not -1", what, h, i, n, got)
		}
	}
}

// checkNoDrops checks that some numbers of drops cannot come to a cell.
func checkNoDrops(t *testing.T, what string, h [][]int, i int, drops []int) {
	t.Helper()
	for _, n := range drops {
		if wet, off := impl.PourAt(h, i, n); len(wet) != 0 || off != -1 {
			t.Errorf("%s: %v, cell %d: PourAt of %d drops = %v and %d", what, h, i, n, wet, off)
		}
	}
}

func TestThereAreNoPondsOnRowsThatAreNoGrid(t *testing.T) {
	for what, h := range badGrids() {
		before := cloneRows(h)
		for _, i := range []int{-1, 0, 1, 4, 30} {
			checkNoPond(t, what, h, i, append(badLevels(), 0, 1, 5, impl.MaxHeight), append(badWaters(), 0, 1, 1000))
			checkNoDrops(t, what, h, i, append(badDrops(), 0, 1, impl.MaxDrops))
		}
		if !equalRows(h, before) {
			t.Errorf("%s: changed to %v", what, h)
		}
	}
}

func TestThereAreNoPondsOfOtherCells(t *testing.T) {
	for _, h := range pondGrids() {
		for _, i := range badCells(h) {
			checkNoPond(t, "not a cell", h, i, append(badLevels(), 0, 1, 5, impl.MaxHeight), append(badWaters(), 0, 1, 1000))
			checkNoDrops(t, "not a cell", h, i, append(badDrops(), 0, 1, impl.MaxDrops))
		}
		if t.Failed() {
			return
		}
	}
}

func TestThereAreNoPondsOfOtherNumbers(t *testing.T) {
	forEachCell(t, func(h [][]int, i int) bool {
		checkNoPond(t, "other numbers", h, i, badLevels(), badWaters())
		checkNoDrops(t, "other numbers", h, i, badDrops())
		return !t.Failed()
	})
}

func TestPondsKeepTheirGrid(t *testing.T) {
	for _, h := range pondGrids() {
		// The rows are parts of one list, each one with the next one behind it.
		memory := slices.Concat(append(cloneRows(h), []int{-5, -5})...)
		before := slices.Clone(memory)
		var parts [][]int
		for r := range h {
			parts = append(parts, memory[r*len(h[0]):(r+1)*len(h[0])])
		}
		for i := range cellsOf(h) {
			ponds, states := pondsOf(h, i), poursByWays(h, i)
			if !slices.Equal(pondsOf(parts, i), ponds) || impl.LevelFor(parts, i, 9) != levelByPonds(ponds, 9) || !isPoured(parts, i, 9, states[9]) {
				t.Fatalf("%v: other results in other memory, of the cell %d", h, i)
			}
		}
		if !slices.Equal(memory, before) {
			t.Fatalf("%v: %v is changed to %v", h, before, memory)
		}
	}
}

func TestDropsFallOnRowsThatAreOneSlice(t *testing.T) {
	row := []int{9, 3, 9, 3, 9}
	h := [][]int{{9, 9, 9, 9, 9}, row, row, row, {9, 9, 9, 9, 9}}
	if wet, off := impl.PourAt(h, 11, 3); off != 0 || !equalRows(wet, [][]int{h[0], {9, 4, 9, 3, 9}, {9, 4, 9, 3, 9}, {9, 4, 9, 3, 9}, h[4]}) {
		t.Errorf("PourAt(%v) = %v and %d", h, wet, off)
	}
	if wet, off := impl.PourAt(h, 6, 1); off != 0 || !equalRows(wet, [][]int{h[0], {9, 4, 9, 3, 9}, {9, 3, 9, 3, 9}, {9, 3, 9, 3, 9}, h[4]}) {
		t.Errorf("PourAt(%v) = %v and %d", h, wet, off)
	}
	if !slices.Equal(row, []int{9, 3, 9, 3, 9}) {
		t.Errorf("the row is changed to %v", row)
	}
}

func TestHeightsBehindDropsAreTheirOwn(t *testing.T) {
	for _, n := range []int{0, 5} {
		checkGridToRows(t, "PourAt", func(h [][]int) [][]int {
			wet, _ := impl.PourAt(h, cellsOf(h)/2, n)
			return wet
		})
	}
}

func TestDropsAtTheSameTimeAreAsOneByOne(t *testing.T) {
	grids := pondGrids()
	var sent sync.WaitGroup
	for _, h := range grids[:200] {
		i := cellsOf(h) / 2
		want := poursByWays(h, i)[impl.MaxDrops]
		for range 3 {
			sent.Go(func() {
				if !isPoured(h, i, impl.MaxDrops, want) {
					t.Errorf("%v: other results at the same time", h)
				}
			})
		}
	}
	sent.Wait()
}

// A sender that has closed its channel may still be about to end, so those that run are counted until they are no more than before.
func TestNoSenderIsLeft(t *testing.T) {
	before := runtime.NumGoroutine()
	h := [][]int{{5, 5, 5}, {5, 1, 5}, {5, 4, 5}}
	for n := -1; n <= impl.MaxDrops+1; n++ {
		for i := -1; i <= cellsOf(h); i++ {
			impl.PourAt(h, i, n)
			impl.PourAt(nil, i, n)
		}
	}
	for range 1_000_000 {
		if runtime.NumGoroutine() <= before {
			return
		}
		runtime.Gosched()
	}
	t.Errorf("%d run, before %d", runtime.NumGoroutine(), before)
}
