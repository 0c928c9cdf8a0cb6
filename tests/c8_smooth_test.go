package tests

import (
	"math"
	"reflect"
	"slices"
	"testing"

	"loop.example/wateronheights/impl"
)

// smoothed is what is told of one profile: its smooth row, by blocks and by means, what at most 1, 2 and up to
// MaxProfile terraces cost, and what it costs to rise.
type smoothed struct {
	byBlocks, byMeans []impl.Frac
	terraces          []int
	rise              int
}

func smoothedOf(p []int) smoothed {
	s := smoothed{byBlocks: impl.SmoothUp(p), byMeans: impl.SmoothByMeans(p), rise: impl.RiseCost(p)}
	for k := 1; k <= impl.MaxProfile; k++ {
		s.terraces = append(s.terraces, impl.TerraceCost(p, k))
	}
	return s
}

// smoothCase is a profile with what is told of it, written out; what more terraces than are written cost is 0.
type smoothCase struct {
	name     string
	p        []int
	smooth   []impl.Frac
	terraces []int
	rise     int
}

func (c smoothCase) want() smoothed {
	rest := make([]int, impl.MaxProfile-len(c.terraces))
	return smoothed{c.smooth, c.smooth, slices.Concat(c.terraces, rest), c.rise}
}

// wholes returns whole numbers as fractions.
func wholes(numbers ...int) []impl.Frac {
	var fracs []impl.Frac
	for _, n := range numbers {
		fracs = append(fracs, impl.Frac{Up: n, Down: 1})
	}
	return fracs
}

func times(n, up, down int) []impl.Frac {
	return slices.Repeat([]impl.Frac{{Up: up, Down: down}}, n)
}

func smoothCases() []smoothCase {
	return slices.Concat(fewPlacesSmoothCases(), oneHeightSmoothCases(), alongSmoothCases(), meanSmoothCases(), terraceSmoothCases())
}

func fewPlacesSmoothCases() []smoothCase {
	return []smoothCase{
		{"one place", []int{7}, wholes(7), nil, 0},
		{"one place of height 0", []int{0}, wholes(0), nil, 0},
		{"one place of the greatest height", []int{12}, wholes(12), nil, 0},
		{"two places that fall", []int{2, 1}, times(2, 3, 2), []int{1}, 1},
		{"two places that rise", []int{1, 2}, wholes(1, 2), []int{1}, 0},
		{"two places as high", []int{4, 4}, wholes(4, 4), nil, 0},
		{"from the greatest height to 0", []int{12, 0}, wholes(6, 6), []int{12}, 12},
		{"from 0 to the greatest height", []int{0, 12}, wholes(0, 12), []int{12}, 0},
		{"a place in the middle that is less", []int{3, 1, 2}, wholes(2, 2, 2), []int{2, 1}, 2},
		{"a place in the middle that is more", []int{1, 3, 2}, slices.Concat(wholes(1), times(2, 5, 2)), []int{2, 1}, 1},
	}
}

func oneHeightSmoothCases() []smoothCase {
	return []smoothCase{
		{"all of height 0", slices.Repeat([]int{0}, 9), times(9, 0, 1), nil, 0},
		{"all of one height", slices.Repeat([]int{5}, 4), times(4, 5, 1), nil, 0},
		{"all of the greatest height", slices.Repeat([]int{12}, 9), times(9, 12, 1), nil, 0},
	}
}

func alongSmoothCases() []smoothCase {
	falls := []int{20, 10, 6, 5, 4, 3, 2, 1}
	return []smoothCase{
		{"the longest rise, from 0", []int{0, 1, 2, 3, 4, 5, 6, 7, 8}, wholes(0, 1, 2, 3, 4, 5, 6, 7, 8), falls, 0},
		{"the longest rise, to the greatest height", []int{4, 5, 6, 7, 8, 9, 10, 11, 12}, wholes(4, 5, 6, 7, 8, 9, 10, 11, 12), falls, 0},
		{"the longest fall, from the greatest height", []int{12, 11, 10, 9, 8, 7, 6, 5, 4}, times(9, 8, 1), falls, 20},
		{"the longest fall, to 0", []int{8, 7, 6, 5, 4, 3, 2, 1, 0}, times(9, 4, 1), falls, 20},
		{"a rise with terraces", []int{0, 3, 3, 6, 7, 9, 9, 12, 12}, wholes(0, 3, 3, 6, 7, 9, 9, 12, 12), []int{30, 14, 8, 4, 1}, 0},
		{"a step down", []int{12, 12, 12, 12, 0, 0, 0, 0, 0}, times(9, 16, 3), []int{48}, 48},
		{"a step up", []int{0, 0, 0, 0, 12, 12, 12, 12, 12}, slices.Concat(times(4, 0, 1), times(5, 12, 1)), []int{48}, 0},
		{"a rise to the last place", []int{0, 0, 0, 0, 0, 0, 0, 0, 5}, slices.Concat(times(8, 0, 1), wholes(5)), []int{5}, 0},
		{"a fall from the first place", []int{5, 0, 0, 0, 0, 0, 0, 0, 0}, times(9, 5, 9), []int{5}, 5},
	}
}

func meanSmoothCases() []smoothCase {
	return []smoothCase{
		{"a mean with a common factor", []int{6, 0, 0, 0, 0, 0, 0, 0, 0}, times(9, 2, 3), []int{6}, 6},
		{"a mean without a common factor", []int{1, 0, 0, 0, 0, 0, 0}, times(7, 1, 7), []int{1}, 1},
		{"a mean that is whole", []int{7, 0, 0, 0, 0, 0, 0}, times(7, 1, 1), []int{7}, 7},
		{"two means as great", []int{3, 1, 4, 0}, times(4, 2, 1), []int{6, 3, 2}, 6},
		{"three means as great", []int{4, 0, 2, 3, 1}, times(5, 2, 1), []int{6, 4, 2, 1}, 6},
		{"places as high that are put together by a third one", []int{2, 2, 1, 3}, slices.Concat(times(3, 5, 3), wholes(3)), []int{2, 1}, 1},
		{"several means", []int{1, 3, 0, 4, 2}, slices.Concat(wholes(1), times(2, 3, 2), times(2, 3, 1)), []int{6, 5, 3, 2}, 5},
		{"places put together again and again", []int{5, 1, 3, 3, 2, 4}, slices.Concat(times(5, 14, 5), wholes(4)), []int{6, 4, 2, 1}, 5},
		{"a fall, a flat and a rise", []int{2, 0, 0, 0, 1}, slices.Concat(times(4, 1, 2), wholes(1)), []int{3, 1}, 2},
		{"heights that are mixed", []int{0, 4, 2, 12, 9, 9, 6, 12, 12}, wholes(0, 3, 3, 9, 9, 9, 9, 12, 12), []int{33, 16, 10, 7, 4, 2}, 8},
	}
}

func terraceSmoothCases() []smoothCase {
	return []smoothCase{
		{"terraces up and down", []int{1, 4, 2, 6}, slices.Concat(wholes(1), times(2, 3, 1), wholes(6)), []int{7, 3, 2}, 2},
		{"more terraces than different heights", []int{1, 5, 1, 5, 1}, slices.Concat(wholes(1), times(4, 3, 1)), []int{8, 8, 4, 4}, 8},
		{"as few different heights and long terraces", []int{1, 5, 5, 1, 9, 9, 1, 1, 5},
			slices.Concat(wholes(1), times(3, 11, 3), times(5, 5, 1)), []int{24, 20, 12, 8, 4}, 20},
		{"a comb of the least and the greatest height", []int{0, 12, 0, 12, 0, 12, 0, 12, 0},
			slices.Concat(wholes(0), times(8, 6, 1)), []int{48, 48, 36, 36, 24, 24, 12, 12}, 48},
		{"the same comb upside down", []int{12, 0, 12, 0, 12, 0, 12, 0, 12},
			slices.Concat(times(8, 6, 1), wholes(12)), []int{48, 48, 36, 36, 24, 24, 12, 12}, 48},
		{"the most different heights", []int{3, 4, 2, 5, 1, 6, 0, 7, 12}, slices.Concat(times(7, 3, 1), wholes(7, 12)), []int{24, 16, 12, 9, 6, 4, 2, 1}, 12},
	}
}

// earthCase is two profiles with what is told of earth moved from one to the other one, written out.
type earthCase struct {
	name  string
	p, q  []int
	cost  int
	moves [][]int
}

func earthCases() []earthCase {
	return slices.Concat(sameEarthCases(), backwardsEarthCases(), severalEarthCases())
}

func sameEarthCases() []earthCase {
	return []earthCase{
		{"one place twice", []int{5}, []int{5}, 0, nil},
		{"one place of height 0 twice", []int{0}, []int{0}, 0, nil},
		{"the same rows", []int{3, 0, 12, 4}, []int{3, 0, 12, 4}, 0, nil},
		{"the same longest rows", []int{12, 0, 1, 2, 3, 4, 5, 6, 12}, []int{12, 0, 1, 2, 3, 4, 5, 6, 12}, 0, nil},
		{"no earth", slices.Repeat([]int{0}, 9), slices.Repeat([]int{0}, 9), 0, nil},
		{"the most earth", slices.Repeat([]int{12}, 9), slices.Repeat([]int{12}, 9), 0, nil},
	}
}

func backwardsEarthCases() []earthCase {
	return []earthCase{
		{"two places", []int{1, 12}, []int{12, 1}, 11, [][]int{{1, 0, 11}}},
		{"from end to end", []int{12, 0, 0, 0, 0, 0, 0, 0, 0}, []int{0, 0, 0, 0, 0, 0, 0, 0, 12}, 96, [][]int{{0, 8, 12}}},
		{"a rise", []int{0, 1, 2, 3, 4, 5, 6, 7, 8}, []int{8, 7, 6, 5, 4, 3, 2, 1, 0}, 120,
			[][]int{{5, 0, 2}, {6, 0, 4}, {7, 0, 2}, {7, 1, 4}, {8, 1, 2}, {8, 2, 4}, {8, 3, 2}}},
		{"a step", []int{12, 12, 12, 12, 0, 0, 0, 0, 0}, []int{0, 0, 0, 0, 0, 12, 12, 12, 12}, 240,
			[][]int{{0, 5, 12}, {1, 6, 12}, {2, 7, 12}, {3, 8, 12}}},
		{"a row that is the same backwards", []int{2, 7, 2}, []int{2, 7, 2}, 0, nil},
	}
}

func severalEarthCases() []earthCase {
	return []earthCase{
		{"from one place to both sides", []int{0, 4, 0}, []int{2, 0, 2}, 4, [][]int{{1, 0, 2}, {1, 2, 2}}},
		{"from both sides to one place", []int{2, 0, 2}, []int{0, 4, 0}, 4, [][]int{{0, 1, 2}, {2, 1, 2}}},
		{"from the last place", []int{0, 0, 6}, []int{2, 2, 2}, 6, [][]int{{2, 0, 2}, {2, 1, 2}}},
		{"from the first place", []int{9, 0, 0, 0}, []int{0, 2, 3, 4}, 20, [][]int{{0, 1, 2}, {0, 2, 3}, {0, 3, 4}}},
		{"to the last place", []int{4, 3, 2, 0}, []int{0, 0, 0, 9}, 20, [][]int{{0, 3, 4}, {1, 3, 3}, {2, 3, 2}}},
		{"one after the other", []int{3, 0, 3, 0}, []int{1, 2, 1, 2}, 4, [][]int{{0, 1, 2}, {2, 3, 2}}},
		{"two with too much ahead of three with too little", []int{5, 5, 0, 0, 0}, []int{0, 0, 2, 3, 5}, 28,
			[][]int{{0, 2, 2}, {0, 3, 3}, {1, 4, 5}}},
		{"places that are left between", []int{1, 0, 5, 2, 0, 4, 0}, []int{0, 4, 0, 2, 4, 0, 2}, 12,
			[][]int{{0, 1, 1}, {2, 1, 3}, {2, 4, 2}, {5, 4, 2}, {5, 6, 2}}},
		{"forth over places and back", []int{5, 0, 5, 0, 5}, []int{0, 3, 6, 6, 0}, 13, [][]int{{0, 1, 3}, {0, 2, 1}, {0, 3, 1}, {4, 3, 5}}},
		{"one place for all", slices.Repeat([]int{1}, 9), []int{0, 0, 0, 0, 9, 0, 0, 0, 0}, 20,
			[][]int{{0, 4, 1}, {1, 4, 1}, {2, 4, 1}, {3, 4, 1}, {5, 4, 1}, {6, 4, 1}, {7, 4, 1}, {8, 4, 1}}},
		{"the most moves, each of other earth", []int{12, 0, 12, 0, 12, 0, 12, 0, 12}, []int{6, 7, 6, 7, 7, 7, 6, 7, 7}, 28,
			[][]int{{0, 1, 6}, {2, 1, 1}, {2, 3, 5}, {4, 3, 2}, {4, 5, 3}, {6, 5, 4}, {6, 7, 2}, {8, 7, 5}}},
	}
}

// smoothProfiles returns the sample profiles, and those written out here, also backwards.
func smoothProfiles() [][]int {
	profiles := sampleProfiles()
	for _, c := range smoothCases() {
		profiles = append(profiles, c.p, backwards(c.p))
	}
	return profiles
}

// forEachSmooth checks each of the profiles, until one is wrong.
func forEachSmooth(t *testing.T, check func(p []int) bool) {
	t.Helper()
	for _, p := range smoothProfiles() {
		if !check(p) {
			t.Fatalf("%v: %+v", p, smoothedOf(p))
		}
	}
}

// rowPair is two profiles as long, with the same sum.
type rowPair struct{ p, q []int }

// rowPairs returns the pairs written out here, all of few places and low heights, and the sample profiles
// with themselves, with their heights in other orders, and with others to which some of their earth is moved.
func rowPairs() []rowPair {
	var pairs []rowPair
	for _, c := range earthCases() {
		pairs = append(pairs, rowPair{c.p, c.q}, rowPair{c.q, c.p})
	}
	pairs = append(pairs, fewRowPairs()...)
	mixed := mixer(8)
	for _, p := range smoothProfiles() {
		rises := slices.Sorted(slices.Values(p))
		for _, q := range [][]int{p, backwards(p), rises, backwards(rises), withEarthMoved(p, mixed), withEarthMoved(p, mixed)} {
			pairs = append(pairs, rowPair{p, q})
		}
	}
	return pairs
}

func fewRowPairs() []rowPair {
	var pairs []rowPair
	for places := 1; places <= 4; places++ {
		rows := everyGrid(1, places, 3)
		for _, p := range rows {
			for _, q := range rows {
				if sumOf(p) == sumOf(q) {
					pairs = append(pairs, rowPair{p[0], q[0]})
				}
			}
		}
	}
	return pairs
}

// withEarthMoved returns a profile with some of its earth at other places.
func withEarthMoved(p []int, mixed func(int) int) []int {
	q := slices.Clone(p)
	for range 1 + mixed(30) {
		from, to := mixed(len(q)), mixed(len(q))
		if q[from] > 0 && q[to] < impl.MaxHeight {
			q[from]--
			q[to]++
		}
	}
	return q
}

// forEachRowPair checks each of the pairs, until one is wrong.
func forEachRowPair(t *testing.T, check func(p, q []int) bool) {
	t.Helper()
	for _, pair := range rowPairs() {
		if !check(pair.p, pair.q) {
			t.Fatalf("%v and %v: EarthCost %d, EarthMoves %v", pair.p, pair.q, impl.EarthCost(pair.p, pair.q), impl.EarthMoves(pair.p, pair.q))
		}
	}
}

// taken returns numbers taken so many times.
func taken(n int, numbers []int) []int {
	return profileOf(len(numbers), func(k int) int { return n * numbers[k] })
}

// scaled returns fractions taken whole times, so that they are whole numbers, and whether they are told as
// the document says: without a common factor, and with a Down of at least 1.
func scaled(fracs []impl.Frac) ([]int, bool) {
	var numbers []int
	for _, f := range fracs {
		if f.Down < 1 || whole%f.Down != 0 {
			return nil, false
		}
		for factor := 2; factor <= f.Down; factor++ {
			if f.Up%factor == 0 && f.Down%factor == 0 {
				return nil, false
			}
		}
		numbers = append(numbers, f.Up*(whole/f.Down))
	}
	return numbers, true
}

// isScaled reports whether fractions are told as the document says, and are some numbers taken whole times.
func isScaled(fracs []impl.Frac, numbers []int) bool {
	got, told := scaled(fracs)
	return told && slices.Equal(got, numbers)
}

// partings returns all ways to part so many places side by side, each one as how many places its parts have.
func partings(places int) [][]int {
	if places == 0 {
		return [][]int{nil}
	}
	var all [][]int
	for last := 1; last <= places; last++ {
		for _, ahead := range partings(places - last) {
			all = append(all, append(ahead, last))
		}
	}
	return all
}

// meansOfParts returns for each place of a profile the mean of its part, taken whole times.
func meansOfParts(p, parts []int) []int {
	var means []int
	for _, places := range parts {
		part := p[len(means) : len(means)+places]
		means = append(means, slices.Repeat([]int{sumOf([][]int{part}) * whole / places}, places)...)
	}
	return means
}

func squaresApart(a, b []int) int {
	sum := 0
	for k := range a {
		sum += (a[k] - b[k]) * (a[k] - b[k])
	}
	return sum
}

func awayFrom(a, b []int) int {
	sum := 0
	for k := range a {
		sum += max(a[k]-b[k], b[k]-a[k])
	}
	return sum
}

// smoothByPartings is SmoothUp, taken whole times, told by all ways to part the places: of those whose means
// do not fall the one whose squares are the least.
func smoothByPartings(p []int) []int {
	var best []int
	for _, parts := range partings(len(p)) {
		means := meansOfParts(p, parts)
		if slices.IsSorted(means) && (best == nil || squaresApart(means, taken(whole, p)) < squaresApart(best, taken(whole, p))) {
			best = means
		}
	}
	return best
}

// terracesByHeights is TerraceCost told place by place, by how many terraces there are so far, and the height of the last one.
func terracesByHeights(p []int, k int) int {
	costs := constantRows(k, impl.MaxHeight+1, never)
	clear(costs[0])
	for _, height := range p {
		next := cloneRows(costs)
		for more := range costs {
			for level := range costs[more] {
				if more > 0 {
					next[more][level] = min(next[more][level], slices.Min(costs[more-1]))
				}
				next[more][level] += max(height-level, level-height)
			}
		}
		costs = next
	}
	return slices.Min(slices.Concat(costs...))
}

// riseByLowering is RiseCost told by the highest places so far: where one is higher than the next place, both are
// together as far away from any height between them, and from then on the highest one counts as no higher than that.
func riseByLowering(p []int) int {
	cost := 0
	var heights []int
	for _, height := range p {
		heights = append(heights, height)
		highest := slices.Max(heights)
		cost += highest - height
		heights[slices.Index(heights, highest)] = height
	}
	return cost
}

// leastAway returns how far the nearest one of all rows of heights that are allowed is away from a profile.
func leastAway(p []int, allowed func(row []int) bool) int {
	least := never
	for _, rows := range everyGrid(1, len(p), impl.MaxHeight+1) {
		if allowed(rows[0]) {
			least = min(least, awayFrom(rows[0], p))
		}
	}
	return least
}

// terracesOf returns how many terraces a row has.
func terracesOf(row []int) int {
	return len(slices.Compact(slices.Clone(row)))
}

// placesOfEarth returns the place of each earth of 1, ascending; there is none where there is less than none.
func placesOfEarth(amounts []int) []int {
	var places []int
	for k, amount := range amounts {
		places = append(places, slices.Repeat([]int{k}, max(amount, 0))...)
	}
	return places
}

// movesByOnes is EarthMoves told by earth of 1: the first that is too much goes where the first is too little, and so on.
func movesByOnes(p, q []int) [][]int {
	from := placesOfEarth(profileOf(len(p), func(k int) int { return p[k] - q[k] }))
	to := placesOfEarth(profileOf(len(p), func(k int) int { return q[k] - p[k] }))
	var moves [][]int
	for n := range from {
		if last := len(moves) - 1; last >= 0 && moves[last][0] == from[n] && moves[last][1] == to[n] {
			moves[last][2]++
		} else {
			moves = append(moves, []int{from[n], to[n], 1})
		}
	}
	return moves
}

// costBySteps is EarthCost told by taking all steps that there are from a profile, again and again.
func costBySteps(p, q []int) int {
	type rowKey [impl.MaxProfile]int
	key := func(row []int) (k rowKey) {
		copy(k[:], row)
		return k
	}
	steps := map[rowKey]int{key(p): 0}
	met := [][]int{p}
	for n := 0; n < len(met); n++ {
		if slices.Equal(met[n], q) {
			return steps[key(q)]
		}
		for from := range met[n] {
			for _, to := range []int{from - 1, from + 1} {
				if to < 0 || to == len(p) || met[n][from] == 0 {
					continue
				}
				next := slices.Clone(met[n])
				next[from]--
				next[to]++
				if _, known := steps[key(next)]; !known {
					steps[key(next)] = steps[key(met[n])] + 1
					met = append(met, next)
				}
			}
		}
	}
	return never
}

func upsideDownAndBackwards(p []int) []int {
	return backwards(upsideDown([][]int{p})[0])
}

func TestSmoothRowsThatAreWrittenOut(t *testing.T) {
	for _, c := range smoothCases() {
		if got := smoothedOf(c.p); !reflect.DeepEqual(got, c.want()) {
			t.Errorf("%s: %+v, not %+v", c.name, got, c.want())
		}
	}
}

func TestEarthThatIsWrittenOut(t *testing.T) {
	for _, c := range earthCases() {
		if got := impl.EarthCost(c.p, c.q); got != c.cost {
			t.Errorf("%s: EarthCost is %d, not %d", c.name, got, c.cost)
		}
		if got := impl.EarthMoves(c.p, c.q); !equalRows(got, c.moves) {
			t.Errorf("%s: EarthMoves is %v, not %v", c.name, got, c.moves)
		}
	}
}

func TestPromise41SmoothRowsByBlocksAreSmoothRowsByMeans(t *testing.T) {
	forEachSmooth(t, func(p []int) bool {
		smooth := impl.SmoothUp(p)
		numbers, told := scaled(smooth)
		return told && slices.Equal(smooth, impl.SmoothByMeans(p)) && slices.IsSorted(numbers) &&
			sumOf([][]int{numbers}) == whole*sumOf([][]int{p})
	})
}

func TestSmoothRowsHaveTheLeastSquares(t *testing.T) {
	forEachSmooth(t, func(p []int) bool {
		want := smoothByPartings(p)
		return isScaled(impl.SmoothUp(p), want) && isScaled(impl.SmoothByMeans(p), want)
	})
}

func TestPromise42UpsideDownAndBackwardsItIsSmoothToo(t *testing.T) {
	forEachSmooth(t, func(p []int) bool {
		for _, smooth := range []func([]int) []impl.Frac{impl.SmoothByMeans, impl.SmoothUp} {
			want := backwards(smooth(p))
			for k, f := range want {
				want[k].Up = impl.MaxHeight*f.Down - f.Up
			}
			if len(want) != len(p) || !slices.Equal(smooth(upsideDownAndBackwards(p)), want) {
				return false
			}
		}
		return true
	})
}

func TestPromise43MoreTerracesCostNoMore(t *testing.T) {
	forEachSmooth(t, func(p []int) bool {
		for k := 1; k <= impl.MaxProfile; k++ {
			cost := impl.TerraceCost(p, k)
			if cost != terracesByHeights(p, k) || cost != impl.TerraceCost(backwards(p), k) {
				return false
			}
			if k > 1 && cost > impl.TerraceCost(p, k-1) || k >= len(p) && cost != 0 {
				return false
			}
		}
		return true
	})
}

func TestOneTerraceFewerThanPlacesCostsTheLeastStep(t *testing.T) {
	forEachSmooth(t, func(p []int) bool {
		if len(p) == 1 {
			return true
		}
		least := impl.MaxHeight
		for k := 1; k < len(p); k++ {
			least = min(least, max(p[k]-p[k-1], p[k-1]-p[k]))
		}
		return impl.TerraceCost(p, len(p)-1) == least
	})
}

func TestOneTerraceCostsWhatHeightsAreAwayFromAMiddleOne(t *testing.T) {
	forEachSmooth(t, func(p []int) bool {
		middle := slices.Sorted(slices.Values(p))[len(p)/2]
		return impl.TerraceCost(p, 1) == awayFrom(p, slices.Repeat([]int{middle}, len(p)))
	})
}

func TestPromise44WhatRisesCostsNothing(t *testing.T) {
	forEachSmooth(t, func(p []int) bool {
		cost := impl.RiseCost(p)
		return cost == riseByLowering(p) && (cost == 0) == slices.IsSorted(p) && cost <= impl.TerraceCost(p, 1) &&
			cost == impl.RiseCost(upsideDownAndBackwards(p))
	})
}

// Of few places all rows of heights can be looked through.
func TestNoRowOfHeightsIsNearerThanItCosts(t *testing.T) {
	forEachSmooth(t, func(p []int) bool {
		if len(p) > 3 {
			return true
		}
		for k := 1; k <= len(p)+1; k++ {
			if impl.TerraceCost(p, k) != leastAway(p, func(row []int) bool { return terracesOf(row) <= k }) {
				return false
			}
		}
		return impl.RiseCost(p) == leastAway(p, func(row []int) bool { return slices.IsSorted(row) })
	})
}

func TestPromise45EarthMovesAsFarAsItIsTold(t *testing.T) {
	forEachRowPair(t, func(p, q []int) bool {
		cost, moved := impl.EarthCost(p, q), 0
		for _, move := range impl.EarthMoves(p, q) {
			moved += move[2] * max(move[0]-move[1], move[1]-move[0])
		}
		if cost != moved || cost != awayFrom(placesOfEarth(p), placesOfEarth(q)) || cost != impl.EarthCost(q, p) {
			return false
		}
		for _, third := range [][]int{backwards(p), backwards(q), slices.Sorted(slices.Values(p))} {
			if impl.EarthCost(p, third)+impl.EarthCost(third, q) < cost {
				return false
			}
		}
		return true
	})
}

func TestEarthCostsTheFewestSteps(t *testing.T) {
	for _, pair := range fewRowPairs() {
		if got, want := impl.EarthCost(pair.p, pair.q), costBySteps(pair.p, pair.q); got != want {
			t.Fatalf("%v and %v: EarthCost is %d, not %d", pair.p, pair.q, got, want)
		}
	}
}

func TestPromise46MovesMakeTheOtherProfile(t *testing.T) {
	forEachRowPair(t, func(p, q []int) bool {
		moves := impl.EarthMoves(p, q)
		made := slices.Clone(p)
		for _, move := range moves {
			if len(move) != 3 || move[2] < 1 || move[0] == move[1] {
				return false
			}
			made[move[0]] -= move[2]
			made[move[1]] += move[2]
		}
		return slices.Equal(made, q) && len(moves) <= len(p)-1 && equalRows(moves, movesByOnes(p, q))
	})
}

func TestTheSameRowsNeedNoMoves(t *testing.T) {
	forEachSmooth(t, func(p []int) bool {
		return impl.EarthCost(p, p) == 0 && len(impl.EarthMoves(p, p)) == 0 &&
			impl.EarthCost(p, slices.Clone(p)) == 0 && len(impl.EarthMoves(p, slices.Clone(p))) == 0
	})
}

// rounded returns numbers that are taken whole times divided by it, after something is added.
func rounded(numbers []int, added int) []int {
	return profileOf(len(numbers), func(k int) int { return (numbers[k] + added) / whole })
}

func TestPromise79WhatRisesIsSmooth(t *testing.T) {
	forEachSmooth(t, func(p []int) bool {
		rises := slices.Sorted(slices.Values(p))
		if !slices.Equal(impl.SmoothUp(rises), wholes(rises...)) || !slices.Equal(impl.SmoothByMeans(rises), wholes(rises...)) {
			return false
		}
		// Down, up, and to the nearest one, halves down or up.
		numbers, _ := scaled(impl.SmoothUp(p))
		for _, added := range []int{0, whole - 1, whole/2 - 1, whole / 2} {
			if len(numbers) != len(p) || impl.RiseCost(p) > awayFrom(p, rounded(numbers, added)) {
				return false
			}
		}
		return true
	})
}

func TestPromise80TerracesMayRise(t *testing.T) {
	forEachSmooth(t, func(p []int) bool {
		rises := slices.Sorted(slices.Values(p))
		for k := 1; k <= impl.MaxProfile; k++ {
			if (impl.TerraceCost(rises, k) == 0) != (k >= terracesOf(rises)) {
				return false
			}
		}
		return true
	})
}

func badTerraces() []int {
	return []int{0, -1, impl.MaxProfile + 1, -impl.MaxProfile, 100, math.MinInt, math.MaxInt}
}

func TestNumbersThatAreNoProfileAreNotMadeSmooth(t *testing.T) {
	for what, p := range badProfiles() {
		before := slices.Clone(p)
		if byBlocks, byMeans := impl.SmoothUp(p), impl.SmoothByMeans(p); len(byBlocks) != 0 || len(byMeans) != 0 {
			t.Errorf("%s: SmoothUp = %v, SmoothByMeans = %v", what, byBlocks, byMeans)
		}
		for _, k := range append(badTerraces(), 1, 2, len(p), impl.MaxProfile) {
			if cost := impl.TerraceCost(p, k); cost != -1 {
				t.Errorf("%s: TerraceCost of %d terraces = %d", what, k, cost)
			}
		}
		if cost := impl.RiseCost(p); cost != -1 {
			t.Errorf("%s: RiseCost = %d", what, cost)
		}
		if !slices.Equal(p, before) {
			t.Errorf("%s: changed to %v", what, p)
		}
	}
}

func TestOtherNumbersOfTerracesHaveNoCost(t *testing.T) {
	forEachSmooth(t, func(p []int) bool {
		for _, k := range badTerraces() {
			if impl.TerraceCost(p, k) != -1 {
				t.Errorf("TerraceCost of %d terraces = %d", k, impl.TerraceCost(p, k))
				return false
			}
		}
		return true
	})
}

// checkNoEarth checks that rows between which no earth can move have what the document states, both ways.
func checkNoEarth(t *testing.T, what string, p, q []int) {
	t.Helper()
	pBefore, qBefore := slices.Clone(p), slices.Clone(q)
	if impl.EarthCost(p, q) != -1 || impl.EarthCost(q, p) != -1 {
		t.Errorf("%s: EarthCost %v and %v = %d, the other way %d", what, p, q, impl.EarthCost(p, q), impl.EarthCost(q, p))
	}
	if len(impl.EarthMoves(p, q)) != 0 || len(impl.EarthMoves(q, p)) != 0 {
		t.Errorf("%s: EarthMoves %v and %v = %v, the other way %v", what, p, q, impl.EarthMoves(p, q), impl.EarthMoves(q, p))
	}
	if !slices.Equal(p, pBefore) || !slices.Equal(q, qBefore) {
		t.Errorf("%s: changed to %v and %v", what, p, q)
	}
}

// evened returns a row as long, with the same sum, whose heights differ by at most 1.
func evened(row []int) []int {
	sum := sumOf([][]int{row})
	return profileOf(len(row), func(k int) int { return sum*(k+1)/len(row) - sum*k/len(row) })
}

func TestNoEarthMovesBetweenNumbersThatAreNoProfile(t *testing.T) {
	evenedToProfiles := 0
	for what, p := range badProfiles() {
		checkNoEarth(t, what, p, p)
		checkNoEarth(t, what, p, slices.Clone(p))
		checkNoEarth(t, what, p, []int{1, 1})
		checkNoEarth(t, what, p, slices.Repeat([]int{1}, impl.MaxProfile))
		if len(p) == 0 || slices.Min(p) < -1 || slices.Max(p) > impl.MaxHeight+1 {
			continue
		}
		// These differ from a valid pair in nothing but that one of them is no profile.
		if even := evened(p); impl.ValidProfile(even) {
			evenedToProfiles++
			checkNoEarth(t, what, p, even)
		}
	}
	if evenedToProfiles < 20 {
		t.Errorf("only %d could be evened to a profile", evenedToProfiles)
	}
	tooLong := append(make([]int, impl.MaxProfile), 1)
	checkNoEarth(t, "a place too many in both rows", tooLong, backwards(tooLong))
	checkNoEarth(t, "a place too many in one row", tooLong, tooLong[1:])
	checkNoEarth(t, "no places in both rows", nil, []int{})
	checkNoEarth(t, "no places and no earth", nil, []int{0})
}

func TestNoEarthMovesBetweenRowsOfOtherLengths(t *testing.T) {
	forEachSmooth(t, func(p []int) bool {
		checkNoEarth(t, "a place more behind", p, append(slices.Clone(p), 0))
		checkNoEarth(t, "a place more ahead", p, append([]int{0}, p...))
		checkNoEarth(t, "a place more with a height", p, append(slices.Clone(p), 3))
		if last := len(p) - 1; last > 0 && p[last]+p[last-1] <= impl.MaxHeight {
			checkNoEarth(t, "the last two places in one", p, append(slices.Clone(p[:last-1]), p[last]+p[last-1]))
		}
		return !t.Failed()
	})
}

func TestNoEarthMovesBetweenRowsOfOtherSums(t *testing.T) {
	forEachSmooth(t, func(p []int) bool {
		for k := range p {
			for _, height := range []int{p[k] - 1, p[k] + 1, 0, impl.MaxHeight} {
				q := slices.Clone(p)
				q[k] = height
				if height != p[k] {
					checkNoEarth(t, "another sum", p, q)
				}
			}
		}
		return !t.Failed()
	})
}

// overwriteFracs fills a list, up to its capacity, with a fraction that no result has.
func overwriteFracs(fracs []impl.Frac) {
	fracs = fracs[:cap(fracs)]
	for i := range fracs {
		fracs[i] = impl.Frac{Up: -77, Down: -77}
	}
}

func TestSmoothRowsAreTheirOwnAndKeepTheirProfile(t *testing.T) {
	forEachSmooth(t, func(p []int) bool {
		memory, part := within(p)
		before := slices.Clone(memory)
		want := smoothedOf(slices.Clip(slices.Clone(p)))
		overwriteFracs(impl.SmoothUp(part))
		overwriteFracs(impl.SmoothByMeans(part))
		return reflect.DeepEqual(smoothedOf(part), want) && slices.Equal(memory, before)
	})
}

func TestEarthMovesAreTheirOwnAndKeepTheirProfiles(t *testing.T) {
	forEachRowPair(t, func(p, q []int) bool {
		pMemory, pPart := within(p)
		qMemory, qPart := within(q)
		pBefore, qBefore := slices.Clone(pMemory), slices.Clone(qMemory)
		cost, want := impl.EarthCost(p, q), movesByOnes(p, q)
		for r := range want {
			got := impl.EarthMoves(pPart, qPart)
			overwrite(got[r])
			if !equalRows(got[:r], want[:r]) || !equalRows(got[r+1:], want[r+1:]) {
				return false
			}
		}
		return impl.EarthCost(pPart, qPart) == cost && equalRows(impl.EarthMoves(pPart, qPart), want) &&
			slices.Equal(pMemory, pBefore) && slices.Equal(qMemory, qBefore)
	})
}
