package tests

import (
	"math"
	"math/bits"
	"slices"
	"testing"

	"loop.example/wateronheights/impl"
)

// sandCase is sand with what it is when it is calm, and how often each cell topples, written out.
type sandCase struct {
	name             string
	s, calm, topples [][]int
}

func calmCase(name string, s [][]int) sandCase {
	return sandCase{name, s, s, noTopples(s)}
}

func noTopples(s [][]int) [][]int { return constantRows(len(s), len(s[0]), 0) }

func sandCases() []sandCase {
	return slices.Concat(calmSandCases(), oneCellSandCases(), rowSandCases(), columnSandCases(), boxSandCases(), largestSandCases())
}

func calmSandCases() []sandCase {
	return []sandCase{
		calmCase("no sand on one cell", [][]int{{0}}),
		calmCase("no sand on the largest box", constantRows(4, 4, 0)),
		calmCase("one cell of three", [][]int{{3}}),
		calmCase("a row of threes", [][]int{{3, 3}}),
		calmCase("a column of threes", constantRows(4, 1, 3)),
		calmCase("a box of threes", [][]int{{3, 3}, {3, 3}}),
		calmCase("the largest box of threes", constantRows(4, 4, 3)),
		calmCase("calm sand of several numbers", [][]int{{0, 1, 2}, {3, 2, 1}}),
	}
}

func oneCellSandCases() []sandCase {
	return []sandCase{
		{"one cell of four", [][]int{{4}}, [][]int{{0}}, [][]int{{1}}},
		{"one cell of five", [][]int{{5}}, [][]int{{1}}, [][]int{{1}}},
		{"one cell of seven", [][]int{{7}}, [][]int{{3}}, [][]int{{1}}},
		{"one cell that topples twice", [][]int{{8}}, [][]int{{0}}, [][]int{{2}}},
		{"one cell of nine", [][]int{{9}}, [][]int{{1}}, [][]int{{2}}},
	}
}

func rowSandCases() []sandCase {
	return []sandCase{
		{"the first cell of two", [][]int{{4, 0}}, [][]int{{0, 1}}, [][]int{{1, 0}}},
		{"the last cell of two", [][]int{{0, 4}}, [][]int{{1, 0}}, [][]int{{0, 1}}},
		{"the last cell makes the first one topple", [][]int{{3, 4}}, [][]int{{0, 1}}, [][]int{{1, 1}}},
		{"the first cell makes the last one topple", [][]int{{4, 3}}, [][]int{{1, 0}}, [][]int{{1, 1}}},
		{"both cells of two", [][]int{{4, 4}}, [][]int{{1, 1}}, [][]int{{1, 1}}},
		{"nine and none", [][]int{{9, 0}}, [][]int{{1, 2}}, [][]int{{2, 0}}},
		{"two nines", [][]int{{9, 9}}, [][]int{{3, 3}}, [][]int{{2, 2}}},
		{"the first cell makes a row topple", [][]int{{4, 3, 3}}, [][]int{{1, 1, 0}}, [][]int{{1, 1, 1}}},
		{"the last cell makes a row topple", [][]int{{3, 3, 4}}, [][]int{{0, 1, 1}}, [][]int{{1, 1, 1}}},
		{"the middle cell makes both others topple", [][]int{{3, 4, 3}}, [][]int{{0, 2, 0}}, [][]int{{1, 1, 1}}},
		{"nine in the middle", [][]int{{0, 9, 0}}, [][]int{{2, 1, 2}}, [][]int{{0, 2, 0}}},
		{"three nines", [][]int{{9, 9, 9}}, [][]int{{0, 3, 0}}, [][]int{{3, 3, 3}}},
		{"the last cell makes the longest row topple", [][]int{{3, 3, 3, 4}}, [][]int{{0, 1, 1, 1}}, [][]int{{1, 1, 1, 1}}},
		{"both ends", [][]int{{8, 1, 1, 8}}, [][]int{{0, 3, 3, 0}}, [][]int{{2, 0, 0, 2}}},
		{"the longest row of nines", [][]int{{9, 9, 9, 9}}, [][]int{{0, 3, 3, 0}}, [][]int{{3, 3, 3, 3}}},
	}
}

func columnSandCases() []sandCase {
	return []sandCase{
		{"the last cell of a column", [][]int{{0}, {4}}, [][]int{{1}, {0}}, [][]int{{0}, {1}}},
		{"the first cell makes a column topple", [][]int{{4}, {3}, {3}}, [][]int{{1}, {1}, {0}}, [][]int{{1}, {1}, {1}}},
		{"a part of a column", [][]int{{3}, {2}, {3}, {4}}, [][]int{{3}, {3}, {0}, {1}}, [][]int{{0}, {0}, {1}, {1}}},
		{"the longest column of nines", [][]int{{9}, {9}, {9}, {9}}, [][]int{{0}, {3}, {3}, {0}}, [][]int{{3}, {3}, {3}, {3}}},
	}
}

func boxSandCases() []sandCase {
	return []sandCase{
		{"four fours", [][]int{{4, 4}, {4, 4}}, [][]int{{2, 2}, {2, 2}}, [][]int{{1, 1}, {1, 1}}},
		{"the last cell of threes and a four", [][]int{{3, 3}, {3, 4}}, [][]int{{1, 1}, {1, 2}}, [][]int{{1, 1}, {1, 1}}},
		{"nines at two corners", [][]int{{9, 0}, {0, 9}}, [][]int{{3, 0}, {0, 3}}, [][]int{{2, 1}, {1, 2}}},
		{"four nines", [][]int{{9, 9}, {9, 9}}, [][]int{{3, 3}, {3, 3}}, [][]int{{3, 3}, {3, 3}}},
		{"ascending in two rows", [][]int{{1, 2, 3}, {4, 5, 6}}, [][]int{{3, 1, 2}, {2, 1, 1}}, [][]int{{0, 1, 1}, {1, 2, 2}}},
		{"ascending in three rows", [][]int{{1, 2}, {3, 4}, {5, 6}}, [][]int{{2, 3}, {2, 3}, {0, 1}}, [][]int{{0, 0}, {1, 1}, {2, 2}}},
		{"three cells that touch at corners", [][]int{{4, 0, 4}, {0, 4, 0}}, [][]int{{0, 3, 0}, {2, 0, 2}}, [][]int{{1, 0, 1}, {0, 1, 0}}},
		{"two cells of two rows", [][]int{{0, 4, 0, 0}, {0, 0, 4, 0}}, [][]int{{1, 0, 2, 0}, {0, 2, 0, 1}}, [][]int{{0, 1, 0, 0}, {0, 0, 1, 0}}},
		{"two rows of nines", constantRows(2, 4, 9), [][]int{{2, 3, 3, 2}, {2, 3, 3, 2}}, [][]int{{4, 5, 5, 4}, {4, 5, 5, 4}}},
		{"two columns of nines", constantRows(3, 2, 9), constantRows(3, 2, 2), [][]int{{4, 4}, {5, 5}, {4, 4}}},
		{"the middle of no sand", [][]int{{0, 0, 0}, {0, 4, 0}, {0, 0, 0}}, [][]int{{0, 1, 0}, {1, 0, 1}, {0, 1, 0}}, [][]int{{0, 0, 0}, {0, 1, 0}, {0, 0, 0}}},
		{"nine in the middle of no sand", [][]int{{0, 0, 0}, {0, 9, 0}, {0, 0, 0}}, [][]int{{0, 2, 0}, {2, 1, 2}, {0, 2, 0}}, [][]int{{0, 0, 0}, {0, 2, 0}, {0, 0, 0}}},
		{"the middle of threes", [][]int{{3, 3, 3}, {3, 4, 3}, {3, 3, 3}}, [][]int{{1, 3, 1}, {3, 0, 3}, {1, 3, 1}}, [][]int{{1, 1, 1}, {1, 2, 1}, {1, 1, 1}}},
		{"a corner of threes", [][]int{{4, 3, 3}, {3, 3, 3}, {3, 3, 3}}, [][]int{{2, 2, 1}, {2, 3, 2}, {1, 2, 1}}, constantRows(3, 3, 1)},
		{"three rows of nines", constantRows(3, 3, 9), [][]int{{1, 3, 1}, {3, 1, 3}, {1, 3, 1}}, [][]int{{5, 6, 5}, {6, 8, 6}, {5, 6, 5}}},
	}
}

func largestSandCases() []sandCase {
	return []sandCase{
		{"the largest box of fours", constantRows(4, 4, 4),
			[][]int{{0, 3, 3, 0}, {3, 2, 2, 3}, {3, 2, 2, 3}, {0, 3, 3, 0}}, [][]int{{2, 2, 2, 2}, {2, 3, 3, 2}, {2, 3, 3, 2}, {2, 2, 2, 2}}},
		{"the largest box of threes with a four at its end", [][]int{{3, 3, 3, 3}, {3, 3, 3, 3}, {3, 3, 3, 3}, {3, 3, 3, 4}},
			[][]int{{1, 2, 2, 1}, {2, 3, 3, 2}, {2, 3, 3, 2}, {1, 2, 2, 2}}, constantRows(4, 4, 1)},
		{"the largest box of nines and none", [][]int{{9, 0, 0, 9}, {0, 9, 9, 0}, {0, 9, 9, 0}, {9, 0, 0, 9}},
			constantRows(4, 4, 3), [][]int{{2, 1, 1, 2}, {1, 4, 4, 1}, {1, 4, 4, 1}, {2, 1, 1, 2}}},
		{"the largest box of nines", constantRows(4, 4, 9),
			constantRows(4, 4, 3), [][]int{{5, 7, 7, 5}, {7, 10, 10, 7}, {7, 10, 10, 7}, {5, 7, 7, 5}}},
	}
}

// burnCase is sand, and whether it burns, written out.
type burnCase struct {
	name  string
	s     [][]int
	burns bool
}

func burnCases() []burnCase {
	return slices.Concat(rowBurnCases(), boxBurnCases(), looseBurnCases())
}

func rowBurnCases() []burnCase {
	return []burnCase{
		{"no sand on one cell", [][]int{{0}}, true},
		{"one cell of three", [][]int{{3}}, true},
		{"no sand on two cells", [][]int{{0, 0}}, false},
		{"the first cell burns, then the last one", [][]int{{1, 0}}, true},
		{"the last cell burns, then the first one", [][]int{{0, 1}}, true},
		{"the first row burns, then the last one", [][]int{{1}, {0}}, true},
		{"the last row burns, then the first one", [][]int{{0}, {1}}, true},
		{"ones", [][]int{{1, 1, 1, 1}}, true},
		{"a middle too low", [][]int{{0, 1, 0}}, false},
		{"the middle burns, then both others", [][]int{{0, 2, 0}}, true},
		{"both others burn, then the middle", [][]int{{1, 0, 1}}, true},
		{"one burns, the others do not", [][]int{{1, 0, 0}}, false},
		{"from the end to the beginning", [][]int{{0, 1, 1, 1}}, true},
		{"none burns between two noughts", [][]int{{0, 1, 1, 0}}, false},
		{"from a middle to both ends", [][]int{{0, 2, 1, 0}}, true},
		{"two noughts in a column", [][]int{{3}, {0}, {0}, {3}}, false},
	}
}

func boxBurnCases() []burnCase {
	return []burnCase{
		{"four ones", constantRows(2, 2, 1), false},
		{"a two at the beginning of ones", [][]int{{2, 1}, {1, 1}}, true},
		{"a two at the end of ones", [][]int{{1, 1}, {1, 2}}, true},
		{"noughts that touch at a corner, and a one", [][]int{{2, 0}, {0, 1}}, false},
		{"noughts that touch at a corner, and twos", [][]int{{2, 0}, {0, 2}}, true},
		{"around to the nought", [][]int{{2, 0}, {1, 1}}, true},
		{"noughts one above the other", [][]int{{3, 0}, {3, 0}}, false},
		{"noughts beside each other", [][]int{{3, 3, 3}, {3, 0, 0}, {3, 3, 3}}, false},
		{"a nought in the middle", [][]int{{2, 1, 2}, {1, 0, 1}, {2, 1, 2}}, true},
		{"no sand", constantRows(4, 4, 0), false},
		{"ones on the largest box", constantRows(4, 4, 1), false},
		{"twos on the largest box", constantRows(4, 4, 2), true},
		{"threes on the largest box", constantRows(4, 4, 3), true},
		{"twos but for a corner", [][]int{{1, 2, 2, 2}, {2, 2, 2, 2}, {2, 2, 2, 2}, {2, 2, 2, 2}}, true},
		{"twos but for all corners", [][]int{{1, 2, 2, 1}, {2, 2, 2, 2}, {2, 2, 2, 2}, {1, 2, 2, 1}}, false},
		{"four ones inside", [][]int{{3, 3, 3, 3}, {3, 1, 1, 3}, {3, 1, 1, 3}, {3, 3, 3, 3}}, false},
		{"three ones inside", [][]int{{3, 3, 3, 3}, {3, 1, 1, 3}, {3, 1, 2, 3}, {3, 3, 3, 3}}, true},
	}
}

func looseBurnCases() []burnCase {
	return []burnCase{
		{"one cell of four", [][]int{{4}}, false},
		{"one cell of nine", [][]int{{9}}, false},
		{"a four at the beginning", [][]int{{4, 3}}, false},
		{"a four at the end", [][]int{{3, 4}}, false},
		{"threes with a four at the end", [][]int{{3, 3, 3, 3}, {3, 3, 3, 3}, {3, 3, 3, 3}, {3, 3, 3, 4}}, false},
		{"nines", constantRows(4, 4, 9), false},
	}
}

// sumCase is two sands and what they are together, written out.
type sumCase struct {
	name      string
	a, b, sum [][]int
}

func sumCases() []sumCase {
	threes := [][]int{{3, 3}, {3, 3}}
	return []sumCase{
		{"no sand", [][]int{{0}}, [][]int{{0}}, [][]int{{0}}},
		{"one cell that stays calm", [][]int{{1}}, [][]int{{2}}, [][]int{{3}}},
		{"one cell that topples", [][]int{{1}}, [][]int{{3}}, [][]int{{0}}},
		{"one cell of nine and of none", [][]int{{9}}, [][]int{{0}}, [][]int{{1}}},
		{"one cell of nine and of one", [][]int{{9}}, [][]int{{1}}, [][]int{{2}}},
		{"one cell of nine twice", [][]int{{9}}, [][]int{{9}}, [][]int{{2}}},
		{"loose sand and none", [][]int{{3, 4}}, [][]int{{0, 0}}, [][]int{{0, 1}}},
		{"a row of nines twice", [][]int{{9, 9}}, [][]int{{9, 9}}, [][]int{{3, 3}}},
		{"a column", [][]int{{1}, {2}}, [][]int{{2}, {2}}, [][]int{{0}, {1}}},
		{"sand that burns and one more", [][]int{{3, 3}}, [][]int{{1, 0}}, [][]int{{1, 0}}},
		{"threes and ones", threes, [][]int{{1, 1}, {1, 1}}, [][]int{{2, 2}, {2, 2}}},
		{"threes twice", threes, threes, constantRows(2, 2, 2)},
		{"another column", [][]int{{9}, {0}, {9}, {9}}, [][]int{{0}, {9}, {9}, {1}}, [][]int{{1}, {2}, {2}, {0}}},
		{"two rows of mixed numbers", [][]int{{9, 1, 2}, {0, 8, 9}}, [][]int{{3, 9, 9}, {2, 2, 7}}, [][]int{{1, 2, 3}, {1, 1, 3}}},
		{"two columns of mixed numbers", constantRows(3, 2, 9), [][]int{{9, 0}, {0, 9}, {5, 5}}, [][]int{{0, 2}, {1, 3}, {1, 2}}},
		{"three rows of nines twice", constantRows(3, 3, 9), constantRows(3, 3, 9), constantRows(3, 3, 2)},
		{"the largest boxes of nines", constantRows(4, 4, 9), constantRows(4, 4, 9), [][]int{{2, 3, 3, 2}, {3, 2, 2, 3}, {3, 2, 2, 3}, {2, 3, 3, 2}}},
		{"the largest boxes of mixed numbers", [][]int{{1, 2, 3, 4}, {5, 6, 7, 8}, {9, 8, 7, 6}, {5, 4, 3, 2}},
			[][]int{{9, 9, 9, 9}, {0, 0, 0, 0}, {3, 1, 2, 3}, {9, 0, 9, 0}}, [][]int{{2, 1, 3, 2}, {3, 0, 2, 2}, {1, 3, 3, 0}, {2, 2, 2, 2}}},
	}
}

// zeroSands returns the sand that changes nothing for each size, written out.
func zeroSands() [][][]int {
	return [][][]int{
		{{0}}, {{3, 3}}, {{3, 2, 3}}, {{3, 2, 2, 3}},
		{{3}, {3}}, {{2, 2}, {2, 2}}, {{2, 1, 2}, {2, 1, 2}}, {{1, 3, 3, 1}, {1, 3, 3, 1}},
		{{3}, {2}, {3}}, {{2, 2}, {1, 1}, {2, 2}}, {{2, 1, 2}, {1, 0, 1}, {2, 1, 2}}, {{0, 2, 2, 0}, {3, 3, 3, 3}, {0, 2, 2, 0}},
		{{3}, {2}, {2}, {3}}, {{1, 1}, {3, 3}, {3, 3}, {1, 1}}, {{0, 3, 0}, {2, 3, 2}, {2, 3, 2}, {0, 3, 0}},
		{{2, 3, 3, 2}, {3, 2, 2, 3}, {3, 2, 2, 3}, {2, 3, 3, 2}},
	}
}

// boxSizes returns the sizes of all sands, each one as its rows and columns.
func boxSizes() [][2]int {
	var sizes [][2]int
	for r := 1; r <= impl.MaxBox; r++ {
		for c := 1; c <= impl.MaxBox; c++ {
			sizes = append(sizes, [2]int{r, c})
		}
	}
	return sizes
}

// sandsOf returns sands of one size: those of one number, some of all numbers, some of two, and calm ones, some of which burn.
func sandsOf(r, c int) [][][]int {
	mixed := mixer(uint64(10*r + c))
	var sands [][][]int
	for number := range impl.MaxSand + 1 {
		sands = append(sands, constantRows(r, c, number))
	}
	for n := range 20 {
		ends := []int{mixed(3), 3 + mixed(impl.MaxSand-2)}
		sands = append(sands,
			gridOf(r, c, func() int { return mixed(impl.MaxSand + 1) }),
			gridOf(r, c, func() int { return ends[mixed(2)] }),
			gridOf(r, c, func() int { return 3 - mixed(2)*mixed(2+n%3) }),
			gridOf(r, c, func() int { return mixed(4) }))
	}
	return sands
}

// sampleSands returns valid sands of all sizes: those written out here, every one of few cells, and those of each size.
func sampleSands() [][][]int {
	sands := slices.Concat(everyGrid(1, 1, 10), everyGrid(1, 2, 10), everyGrid(2, 1, 10), everyGrid(1, 3, 7), everyGrid(3, 1, 7), everyGrid(2, 2, 6), zeroSands())
	for _, c := range sandCases() {
		sands = append(sands, c.s)
	}
	for _, c := range burnCases() {
		sands = append(sands, c.s)
	}
	for _, size := range boxSizes() {
		sands = append(sands, sandsOf(size[0], size[1])...)
	}
	return sands
}

// forEachSand checks each of the sands, until one is wrong.
func forEachSand(t *testing.T, check func(s [][]int) bool) {
	t.Helper()
	for _, s := range sampleSands() {
		if !check(s) {
			t.Fatalf("%v: CalmFirst = %v, CalmLast = %v, TopplesOf = %v, Burns = %v", s, impl.CalmFirst(s), impl.CalmLast(s), impl.TopplesOf(s), impl.Burns(s))
		}
	}
}

// forEachSum checks pairs of sands of each size, also of the same one twice, and with each pair a third one, until some are wrong.
func forEachSum(t *testing.T, check func(a, b, c [][]int) bool) {
	t.Helper()
	for _, size := range boxSizes() {
		sands := sandsOf(size[0], size[1])
		third := mixer(54)
		for n, a := range sands {
			for k := n % 3; k < len(sands); k += 3 {
				b, c := sands[k], sands[third(len(sands))]
				if !check(a, b, c) {
					t.Fatalf("%v and %v, with %v: AddSand = %v", a, b, c, impl.AddSand(a, b))
				}
			}
		}
	}
}

// plus returns the numbers of rows of one size together.
func plus(first [][]int, others ...[][]int) [][]int {
	sum := cloneRows(first)
	for _, other := range others {
		for r := range sum {
			for c := range sum[r] {
				sum[r][c] += other[r][c]
			}
		}
	}
	return sum
}

func isCalm(s [][]int) bool { return slices.Max(slices.Concat(s...)) < 4 }

// toppledByRounds is CalmFirst and TopplesOf, told by rounds in each of which all cells topple at once, as often as they can.
func toppledByRounds(s [][]int) (calm, topples [][]int) {
	calm, topples = cloneRows(s), noTopples(s)
	columns := len(s[0])
	for !isCalm(calm) {
		next := cloneRows(calm)
		for i := range cellsOf(calm) {
			times := heightAt(calm, i) / 4
			topples[i/columns][i%columns] += times
			next[i/columns][i%columns] -= 4 * times
			for _, k := range besideByPlace(calm, i) {
				next[k/columns][k%columns] += times
			}
		}
		calm = next
	}
	return calm, topples
}

// burnsBySets is Burns told by all sets of cells: none of them is left because each of its cells has less than cells of it beside it.
func burnsBySets(s [][]int) bool {
	if !isCalm(s) {
		return false
	}
	beside := make([]uint, cellsOf(s))
	for i := range beside {
		for _, k := range besideByPlace(s, i) {
			beside[i] |= 1 << k
		}
	}
	numbers := slices.Concat(s...)
	for set := uint(1); set < 1<<len(numbers); set++ {
		burning := false
		for rest := set; rest != 0 && !burning; rest &= rest - 1 {
			i := bits.TrailingZeros(rest)
			burning = numbers[i] >= bits.OnesCount(beside[i]&set)
		}
		if !burning {
			return false
		}
	}
	return true
}

// openSides returns for each cell of so many rows and columns how many of its sides are at the edge.
func openSides(r, c int) [][]int {
	sides := constantRows(r, c, 4)
	for i := range cellsOf(sides) {
		sides[i/c][i%c] -= len(besideByPlace(sides, i))
	}
	return sides
}

func TestSandThatIsWrittenOut(t *testing.T) {
	for _, c := range sandCases() {
		if first, last := impl.CalmFirst(c.s), impl.CalmLast(c.s); !equalRows(first, c.calm) || !equalRows(last, c.calm) {
			t.Errorf("%s: CalmFirst(%v) = %v, CalmLast %v, not %v", c.name, c.s, first, last, c.calm)
		}
		if topples := impl.TopplesOf(c.s); !equalRows(topples, c.topples) {
			t.Errorf("%s: TopplesOf(%v) = %v, not %v", c.name, c.s, topples, c.topples)
		}
	}
}

func TestBurningThatIsWrittenOut(t *testing.T) {
	for _, c := range burnCases() {
		if got := impl.Burns(c.s); got != c.burns {
			t.Errorf("%s: Burns(%v) = %v", c.name, c.s, got)
		}
	}
}

func TestSumsOfSandThatAreWrittenOut(t *testing.T) {
	for _, c := range sumCases() {
		if got := impl.AddSand(c.a, c.b); !equalRows(got, c.sum) {
			t.Errorf("%s: AddSand(%v, %v) = %v, not %v", c.name, c.a, c.b, got, c.sum)
		}
	}
}

func TestZeroSandsThatAreWrittenOut(t *testing.T) {
	zeros := zeroSands()
	for n, size := range boxSizes() {
		if got := impl.ZeroSand(size[0], size[1]); !equalRows(got, zeros[n]) {
			t.Errorf("ZeroSand of %v = %v, not %v", size, got, zeros[n])
		}
	}
}

func TestLimitsOfSand(t *testing.T) {
	if impl.MaxBox != 4 || impl.MaxSand != 9 {
		t.Errorf("MaxBox is %d, MaxSand %d", impl.MaxBox, impl.MaxSand)
	}
}

func TestPromise50SandMayBeTurned(t *testing.T) {
	forEachSand(t, func(s [][]int) bool {
		return impl.ValidSand(s) && impl.ValidSand(turned(s))
	})
}

func TestPromise51SandCalmsDownInAnyOrder(t *testing.T) {
	forEachSand(t, func(s [][]int) bool {
		calm, _ := toppledByRounds(s)
		for _, calmed := range []func([][]int) [][]int{impl.CalmFirst, impl.CalmLast} {
			if got := calmed(s); !equalRows(got, calm) || !impl.ValidSand(got) || !isCalm(got) {
				return false
			}
			if !equalRows(calmed(turned(s)), turned(calm)) || !equalRows(calmed(backwards(s)), backwards(calm)) {
				return false
			}
		}
		return true
	})
}

func TestPromise52CalmSandStays(t *testing.T) {
	forEachSand(t, func(s [][]int) bool {
		for _, calmed := range []func([][]int) [][]int{impl.CalmFirst, impl.CalmLast} {
			calm := calmed(s)
			if !equalRows(calmed(calm), calm) || sumOf(calm) > sumOf(s) || isCalm(s) != equalRows(calm, s) {
				return false
			}
		}
		return true
	})
}

func TestPromise53WhatTopplesIsToldByHowOften(t *testing.T) {
	forEachSand(t, func(s [][]int) bool {
		calm, topples := impl.CalmFirst(s), impl.TopplesOf(s)
		for i := range cellsOf(s) {
			number := heightAt(s, i) - 4*heightAt(topples, i)
			for _, k := range besideByPlace(s, i) {
				number += heightAt(topples, k)
			}
			if heightAt(calm, i) != number {
				return false
			}
		}
		_, want := toppledByRounds(s)
		return equalRows(topples, want)
	})
}

func TestPromise54SandIsAddedInAnyOrder(t *testing.T) {
	forEachSum(t, func(a, b, c [][]int) bool {
		calm, _ := toppledByRounds(plus(a, b))
		if !equalRows(impl.AddSand(a, b), calm) || !equalRows(impl.AddSand(b, a), calm) {
			return false
		}
		all, _ := toppledByRounds(plus(a, b, c))
		for _, sum := range [][][]int{
			impl.AddSand(impl.AddSand(a, b), c), impl.AddSand(a, impl.AddSand(b, c)), impl.AddSand(impl.AddSand(c, a), b), impl.AddSand(c, impl.AddSand(b, a)),
		} {
			if !equalRows(sum, all) {
				return false
			}
		}
		return true
	})
}

func TestSandAndNoneIsCalm(t *testing.T) {
	forEachSand(t, func(s [][]int) bool {
		none := noTopples(s)
		return equalRows(impl.AddSand(s, none), impl.CalmFirst(s)) && equalRows(impl.AddSand(none, s), impl.CalmFirst(s))
	})
}

func TestBurningIsToldBySets(t *testing.T) {
	calm := map[bool]int{}
	forEachSand(t, func(s [][]int) bool {
		want := burnsBySets(s)
		if isCalm(s) {
			calm[want]++
		}
		return impl.Burns(s) == want
	})
	if calm[true] < 200 || calm[false] < 200 {
		t.Errorf("of calm sands only %d burn, or only %d do not", calm[true], calm[false])
	}
}

// Where the sand on each open side comes in at the edge, sand that burns topples once everywhere, and only such sand comes back.
func TestSandThatBurnsComesBack(t *testing.T) {
	forEachSand(t, func(s [][]int) bool {
		sides := openSides(len(s), len(s[0]))
		if !isCalm(s) {
			return !impl.Burns(s)
		}
		return impl.Burns(s) == equalRows(impl.AddSand(s, sides), s) && impl.Burns(s) == equalRows(impl.TopplesOf(plus(s, sides)), constantRows(len(s), len(s[0]), 1))
	})
}

// As many sands burn as there are ways to join all cells and the edge without a ring; these numbers are told by determinants.
func TestAsManySandsBurnAsThereAreTrees(t *testing.T) {
	for size, trees := range map[[2]int]int{
		{1, 1}: 4, {1, 2}: 15, {1, 3}: 56, {1, 4}: 209, {2, 1}: 15, {3, 1}: 56, {4, 1}: 209, {2, 2}: 192, {2, 3}: 2415, {3, 2}: 2415,
	} {
		if burning := len(burningSands(size[0], size[1])); burning != trees {
			t.Errorf("%d sands of the size %v burn, not %d", burning, size, trees)
		}
	}
}

// burningSands returns all sands of so many rows and columns that burn.
func burningSands(r, c int) [][][]int {
	return slices.DeleteFunc(everyGrid(r, c, 4), func(s [][]int) bool { return !impl.Burns(s) })
}

func TestPromise55SandThatBurnsBurnsWithMore(t *testing.T) {
	burning := 0
	forEachSum(t, func(a, b, _ [][]int) bool {
		if !burnsBySets(a) {
			return true
		}
		burning++
		return impl.Burns(a) && impl.Burns(impl.AddSand(a, b)) && impl.Burns(impl.AddSand(b, a)) && burnsBySets(impl.AddSand(a, b))
	})
	if burning < 5000 {
		t.Errorf("only %d", burning)
	}
}

func TestPromise56NothingIsAddedByIt(t *testing.T) {
	for _, size := range boxSizes() {
		r, c := size[0], size[1]
		zero, threes := impl.ZeroSand(r, c), constantRows(r, c, 3)
		if !impl.ValidSand(zero) || len(zero) != r || len(zero[0]) != c || !impl.Burns(zero) || !burnsBySets(zero) {
			t.Errorf("ZeroSand of %v = %v does not burn", size, zero)
		}
		if got := impl.AddSand(zero, zero); !equalRows(got, zero) {
			t.Errorf("ZeroSand of %v = %v, with itself %v", size, zero, got)
		}
		if got := impl.AddSand(zero, threes); !equalRows(got, threes) {
			t.Errorf("ZeroSand of %v = %v, with threes %v", size, zero, got)
		}
	}
}

func TestNothingIsAddedToSandThatBurns(t *testing.T) {
	sands := slices.DeleteFunc(sampleSands(), func(s [][]int) bool { return !burnsBySets(s) })
	for _, size := range boxSizes() {
		if r, c := size[0], size[1]; r*c <= 6 {
			sands = append(sands, burningSands(r, c)...)
		}
	}
	for _, s := range sands {
		zero := impl.ZeroSand(len(s), len(s[0]))
		if got, turnedAround := impl.AddSand(zero, s), impl.AddSand(s, zero); !equalRows(got, s) || !equalRows(turnedAround, s) {
			t.Fatalf("%v with %v is %v, and %v", zero, s, got, turnedAround)
		}
	}
}

// Sand that does not burn comes with it to sand that does, so it is changed.
func TestSandThatDoesNotBurnIsChanged(t *testing.T) {
	forEachSand(t, func(s [][]int) bool {
		sum := impl.AddSand(impl.ZeroSand(len(s), len(s[0])), s)
		return impl.Burns(sum) && burnsBySets(s) == equalRows(sum, s)
	})
}

func TestOnlyZeroSandWithItselfIsItself(t *testing.T) {
	for _, size := range boxSizes() {
		r, c := size[0], size[1]
		if r*c > 6 {
			continue
		}
		zeros := slices.DeleteFunc(burningSands(r, c), func(s [][]int) bool { return !equalRows(impl.AddSand(s, s), s) })
		if len(zeros) != 1 || !equalRows(zeros[0], impl.ZeroSand(r, c)) {
			t.Errorf("ZeroSand of %v = %v, and with themselves are themselves %v", size, impl.ZeroSand(r, c), zeros)
		}
	}
}

func TestPromise82NothingAddedTwiceIsNothing(t *testing.T) {
	forEachSum(t, func(a, b, _ [][]int) bool {
		zero := impl.ZeroSand(len(a), len(a[0]))
		withA, withB, withBoth := impl.AddSand(zero, a), impl.AddSand(zero, b), impl.AddSand(zero, impl.AddSand(a, b))
		return equalRows(withBoth, impl.AddSand(withA, withB)) && impl.Burns(withA) && impl.Burns(withB) && impl.Burns(withBoth)
	})
}

func TestPromise84WhatIsCalmNeedsNoTopples(t *testing.T) {
	forEachSand(t, func(s [][]int) bool {
		topples := impl.TopplesOf(s)
		if isCalm(s) != equalRows(topples, noTopples(s)) || slices.Min(slices.Concat(topples...)) < 0 {
			return false
		}
		for r := range s {
			for c := range s[r] {
				if s[r][c] == impl.MaxSand {
					continue
				}
				more := cloneRows(s)
				more[r][c]++
				if slices.Min(slices.Concat(minus(impl.TopplesOf(more), topples)...)) < 0 {
					return false
				}
			}
		}
		return true
	})
}

// badSands returns rows that are not sand, by what is wrong with them.
func badSands() map[string][][]int { return badRows(impl.MaxBox, impl.MaxSand) }

func TestRowsThatAreNoSand(t *testing.T) {
	for what, s := range badSands() {
		before := cloneRows(s)
		if impl.ValidSand(s) || impl.Burns(s) {
			t.Errorf("%s: ValidSand = %v, Burns = %v", what, impl.ValidSand(s), impl.Burns(s))
		}
		for name, f := range sandsToRows() {
			if got := f(s); len(got) != 0 {
				t.Errorf("%s: %s = %v", what, name, got)
			}
		}
		if !equalRows(s, before) {
			t.Errorf("%s: changed to %v", what, s)
		}
	}
}

// Grids may be larger and higher than sand.
func TestMostGridsAreNoSand(t *testing.T) {
	for _, h := range sampleGrids() {
		want := max(len(h), len(h[0])) <= 4 && slices.Max(slices.Concat(h...)) <= 9
		if got := impl.ValidSand(h); got != want {
			t.Fatalf("ValidSand(%v) = %v", h, got)
		}
	}
}

// checkNoSum checks that two rows of numbers have no sum, both ways, and stay as they are.
func checkNoSum(t *testing.T, what string, a, b [][]int) {
	t.Helper()
	aBefore, bBefore := cloneRows(a), cloneRows(b)
	if got, turnedAround := impl.AddSand(a, b), impl.AddSand(b, a); len(got) != 0 || len(turnedAround) != 0 {
		t.Errorf("%s: AddSand %v and %v = %v, the other way %v", what, a, b, got, turnedAround)
	}
	if !equalRows(a, aBefore) || !equalRows(b, bBefore) {
		t.Errorf("%s: changed to %v and %v", what, a, b)
	}
}

func TestRowsThatAreNoSandHaveNoSum(t *testing.T) {
	for what, s := range badSands() {
		checkNoSum(t, what, s, s)
		for _, size := range boxSizes() {
			checkNoSum(t, what, s, constantRows(size[0], size[1], 0))
		}
	}
	tooMany, tooLong := constantRows(impl.MaxBox+1, 1, 0), constantRows(1, impl.MaxBox+1, 0)
	checkNoSum(t, "a row too many in both", tooMany, cloneRows(tooMany))
	checkNoSum(t, "a column too many in both", tooLong, cloneRows(tooLong))
	checkNoSum(t, "numbers that are sand only together", [][]int{{-1, 3}}, [][]int{{2, 0}})
	checkNoSum(t, "numbers that are calm only together", [][]int{{12}}, [][]int{{-10}})
}

func TestSandsOfOtherSizesHaveNoSum(t *testing.T) {
	for _, size := range boxSizes() {
		for _, other := range boxSizes() {
			if size == other {
				continue
			}
			for number := range impl.MaxSand + 1 {
				checkNoSum(t, "other sizes", constantRows(size[0], size[1], number), constantRows(other[0], other[1], number))
			}
		}
	}
}

func TestOtherNumbersHaveNoZeroSand(t *testing.T) {
	bad := []int{0, -1, -impl.MaxBox, impl.MaxBox + 1, 100, math.MinInt, math.MaxInt}
	for _, n := range bad {
		for _, k := range append(bad, 1, 2, 3, impl.MaxBox) {
			if got, turnedAround := impl.ZeroSand(n, k), impl.ZeroSand(k, n); len(got) != 0 || len(turnedAround) != 0 {
				t.Errorf("ZeroSand of %d and %d = %v, the other way %v", n, k, got, turnedAround)
			}
		}
	}
}

// sandsToRows returns what makes rows of sand, by its name, where what is added to it is of its own size.
func sandsToRows() map[string]func([][]int) [][]int {
	like := func(s [][]int, number int) [][]int {
		if len(s) == 0 {
			return nil
		}
		return constantRows(len(s), len(s[0]), number)
	}
	return map[string]func([][]int) [][]int{
		"CalmFirst":                impl.CalmFirst,
		"CalmLast":                 impl.CalmLast,
		"TopplesOf":                impl.TopplesOf,
		"AddSand to none":          func(s [][]int) [][]int { return impl.AddSand(s, like(s, 0)) },
		"AddSand behind none":      func(s [][]int) [][]int { return impl.AddSand(like(s, 0), s) },
		"AddSand to nines":         func(s [][]int) [][]int { return impl.AddSand(s, like(s, 9)) },
		"AddSand to itself":        func(s [][]int) [][]int { return impl.AddSand(s, s) },
		"AddSand to one of itself": func(s [][]int) [][]int { return impl.AddSand(s, cloneRows(s)) },
	}
}

func TestWhatIsMadeOfSandIsItsOwn(t *testing.T) {
	for name, f := range sandsToRows() {
		checkRowsToRows(t, name, sampleSands(), f)
	}
}

func TestZeroSandIsItsOwn(t *testing.T) {
	for n, size := range boxSizes() {
		want := zeroSands()[n]
		for r := range want {
			got := impl.ZeroSand(size[0], size[1])
			overwrite(got[r])
			for k := range got {
				if k != r && !slices.Equal(got[k], want[k]) {
					t.Errorf("ZeroSand of %v: rows %d and %d share memory", size, r, k)
				}
			}
		}
		if got := impl.ZeroSand(size[0], size[1]); !equalRows(got, want) {
			t.Errorf("ZeroSand of %v was %v, then %v", size, want, got)
		}
	}
}

func TestSandKeepsItsMemory(t *testing.T) {
	forEachSand(t, func(s [][]int) bool {
		// The rows are parts of one list, each one with the next one behind it.
		memory := slices.Concat(append(cloneRows(s), []int{-5, -5})...)
		before := slices.Clone(memory)
		var parts [][]int
		for r := range s {
			parts = append(parts, memory[r*len(s[0]):(r+1)*len(s[0])])
		}
		calm, topples := toppledByRounds(s)
		twice, _ := toppledByRounds(plus(s, s))
		return equalRows(impl.CalmFirst(parts), calm) && equalRows(impl.CalmLast(parts), calm) && equalRows(impl.TopplesOf(parts), topples) &&
			equalRows(impl.AddSand(parts, parts), twice) && impl.Burns(parts) == burnsBySets(s) && impl.ValidSand(parts) && slices.Equal(memory, before)
	})
}

func TestSandTopplesOnRowsThatAreOneSlice(t *testing.T) {
	row := []int{3, 4, 3}
	s := [][]int{row, row, row}
	calm, topples := toppledByRounds(s)
	if got := impl.CalmFirst(s); !equalRows(got, calm) {
		t.Errorf("CalmFirst(%v) = %v, not %v", s, got, calm)
	}
	if got := impl.CalmLast(s); !equalRows(got, calm) {
		t.Errorf("CalmLast(%v) = %v, not %v", s, got, calm)
	}
	if got := impl.TopplesOf(s); !equalRows(got, topples) {
		t.Errorf("TopplesOf(%v) = %v, not %v", s, got, topples)
	}
	twice, _ := toppledByRounds(plus(s, s))
	if got := impl.AddSand(s, s); !equalRows(got, twice) || !slices.Equal(row, []int{3, 4, 3}) {
		t.Errorf("AddSand(%v, %v) = %v, not %v, and the row is %v", s, s, got, twice, row)
	}
}
