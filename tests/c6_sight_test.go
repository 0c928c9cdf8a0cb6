package tests

import (
	"math"
	"reflect"
	"slices"
	"testing"

	"loop.example/wateronheights/impl"
)

// sight is what is seen of a profile: from each place which ones, a letter t or f each, and the furthest one.
type sight struct {
	seen     []string
	furthest []int
	roof     []int
	guards   []int
}

func sightOf(p []int) sight {
	s := sight{roof: impl.RoofOf(p), guards: impl.GuardsOf(p)}
	for i := range p {
		s.seen = append(s.seen, letters(impl.SeenFrom(p, i)))
		s.furthest = append(s.furthest, impl.FurthestOf(p, i))
	}
	return s
}

// letters returns answers as a letter t or f each.
func letters(answers []bool) string {
	var s []byte
	for _, answer := range answers {
		if answer {
			s = append(s, 't')
		} else {
			s = append(s, 'f')
		}
	}
	return string(s)
}

// light is a sun, by how much its line rises over so many steps, and on which places it shines.
type light struct {
	up, across int
	lit        string
}

// sightCase is a profile with what is seen and lit of it, written out.
type sightCase struct {
	name   string
	p      []int
	want   sight
	lights []light
}

func sightCases() []sightCase {
	return slices.Concat(fewPlacesCases(), inALineCases(), bentCases(), towerCases())
}

// allSeen is the sight of a profile of so many places of which each one sees all.
func allSeen(places int) sight {
	every := profileOf(places, func(int) int { return places - 1 })
	s := sight{furthest: every, roof: slices.Compact([]int{0, places - 1}), guards: []int{0}}
	for range places {
		s.seen = append(s.seen, "ttttttttt"[:places])
	}
	return s
}

func fewPlacesCases() []sightCase {
	everySun := []light{{0, 1, "t"}, {0, 9, "t"}, {12, 1, "t"}, {12, 9, "t"}}
	return []sightCase{
		{"one place", []int{7}, allSeen(1), everySun},
		{"one place of height 0", []int{0}, allSeen(1), everySun},
		{"one place of the greatest height", []int{12}, allSeen(1), everySun},
		{"two places that rise", []int{3, 8}, allSeen(2),
			[]light{{0, 1, "ft"}, {4, 1, "ft"}, {5, 1, "tt"}, {5, 2, "ft"}, {10, 2, "tt"}, {12, 9, "ft"}, {12, 1, "tt"}}},
		{"two places that fall", []int{8, 3}, allSeen(2), []light{{0, 1, "tt"}, {0, 9, "tt"}, {12, 1, "tt"}}},
		{"two places of one height", []int{4, 4}, allSeen(2), []light{{0, 1, "tt"}, {12, 9, "tt"}}},
		{"two places from the least to the greatest height", []int{0, 12}, allSeen(2),
			[]light{{0, 1, "ft"}, {11, 1, "ft"}, {12, 1, "tt"}, {12, 2, "ft"}}},
	}
}

func inALineCases() []sightCase {
	return []sightCase{
		{"places of one height", []int{4, 4, 4, 4, 4}, allSeen(5), []light{{0, 1, "ttttt"}, {0, 9, "ttttt"}, {3, 2, "ttttt"}}},
		{"the most places of the least height", constantRows(1, 9, 0)[0], allSeen(9), []light{{0, 1, "ttttttttt"}, {12, 1, "ttttttttt"}}},
		{"the most places of the greatest height", constantRows(1, 9, 12)[0], allSeen(9), []light{{0, 1, "ttttttttt"}, {1, 9, "ttttttttt"}}},
		{"the most places in a line that rises", []int{0, 1, 2, 3, 4, 5, 6, 7, 8}, allSeen(9),
			[]light{{0, 1, "fffffffft"}, {1, 1, "ttttttttt"}, {1, 2, "fffffffft"}, {8, 9, "fffffffft"}, {9, 9, "ttttttttt"}, {10, 9, "ttttttttt"}}},
		{"the most places in a line that falls", []int{12, 11, 10, 9, 8, 7, 6, 5, 4}, allSeen(9),
			[]light{{0, 1, "ttttttttt"}, {0, 9, "ttttttttt"}, {12, 1, "ttttttttt"}}},
		{"a line that rises by 3", []int{0, 3, 6, 9, 12}, allSeen(5),
			[]light{{2, 1, "fffft"}, {3, 1, "ttttt"}, {12, 4, "ttttt"}, {12, 5, "fffft"}, {11, 4, "fffft"}}},
		{"places in a line but for one below it", []int{2, 4, 6, 6, 10},
			sight{[]string{"tttft", "tttft", "ttttt", "ffttt", "ttttt"}, []int{4, 4, 4, 4, 4}, []int{0, 4}, []int{2}},
			[]light{{1, 1, "fffft"}, {2, 1, "tttft"}, {4, 1, "ttttt"}}},
		{"places in a line but for one above it", []int{0, 1, 3, 3, 4},
			sight{[]string{"tttff", "tttff", "ttttt", "ffttt", "ffttt"}, []int{2, 2, 4, 4, 4}, []int{0, 2, 4}, []int{2}},
			[]light{{0, 1, "fffft"}, {1, 2, "fftft"}, {1, 1, "ffttt"}, {3, 2, "tfttt"}, {2, 1, "ttttt"}}},
		{"a level top", []int{1, 5, 5, 5, 2},
			sight{[]string{"ttfff", "ttttf", "ftttf", "ftttt", "ffftt"}, []int{1, 3, 3, 4, 4}, []int{0, 1, 3, 4}, []int{0, 3}},
			[]light{{0, 1, "ftttt"}, {3, 1, "ftttt"}, {4, 1, "ttttt"}}},
	}
}

func bentCases() []sightCase {
	return []sightCase{
		{"ever steeper", []int{0, 1, 4, 9}, allSeen(4),
			[]light{{0, 1, "ffft"}, {2, 1, "ffft"}, {3, 1, "tfft"}, {4, 1, "ttft"}, {5, 1, "tttt"}, {9, 2, "ttft"}}},
		{"ever less steep", []int{0, 5, 9, 12},
			sight{[]string{"ttff", "tttf", "fttt", "fftt"}, []int{1, 2, 3, 3}, []int{0, 1, 2, 3}, []int{0, 2}},
			[]light{{0, 1, "ffft"}, {3, 1, "fftt"}, {4, 1, "fttt"}, {5, 1, "tttt"}}},
		{"ever less steep, backwards", []int{12, 9, 5, 0},
			sight{[]string{"ttff", "tttf", "fttt", "fftt"}, []int{1, 2, 3, 3}, []int{0, 1, 2, 3}, []int{0, 2}},
			[]light{{0, 1, "tttt"}, {12, 1, "tttt"}}},
		{"a valley with a shelf", []int{5, 3, 0, 4, 6},
			sight{[]string{"ttftt", "ttttt", "ftttf", "ttttt", "ttftt"}, []int{4, 4, 3, 4, 4}, []int{0, 4}, []int{1}},
			[]light{{0, 1, "fffft"}, {1, 4, "tffft"}, {1, 5, "fffft"}, {1, 1, "ttfft"}, {4, 1, "ttttt"}}},
		{"a wide valley", []int{12, 0, 0, 0, 0, 0, 0, 0, 12}, allSeen(9),
			[]light{{0, 1, "tffffffft"}, {12, 9, "tffffffft"}, {12, 7, "ttfffffft"}, {12, 4, "tttttffft"}, {12, 1, "ttttttttt"}}},
	}
}

func towerCases() []sightCase {
	return []sightCase{
		{"a wall before a slope", []int{0, 3, 1, 2, 5},
			sight{[]string{"ttfff", "ttttt", "ftttt", "ftttt", "ftttt"}, []int{1, 4, 4, 4, 4}, []int{0, 1, 4}, []int{1}},
			[]light{{0, 1, "fffft"}, {1, 1, "ftfft"}, {2, 3, "ftfft"}, {1, 2, "fffft"}, {12, 1, "ttttt"}}},
		{"one tower", []int{0, 0, 12, 0, 0},
			sight{[]string{"tttff", "tttff", "ttttt", "ffttt", "ffttt"}, []int{2, 2, 4, 4, 4}, []int{0, 2, 4}, []int{2}},
			[]light{{0, 1, "ffttt"}, {6, 1, "tfttt"}, {12, 2, "tfttt"}, {12, 1, "ttttt"}, {12, 9, "ffttt"}}},
		{"two towers, and several pairs of guards", []int{0, 9, 0, 9, 0},
			sight{[]string{"ttfff", "ttttf", "ftttf", "ftttt", "ffftt"}, []int{1, 3, 3, 4, 4}, []int{0, 1, 3, 4}, []int{0, 3}},
			[]light{{0, 1, "ftftt"}, {9, 2, "ftftt"}, {9, 1, "ttttt"}}},
		{"three towers", []int{0, 9, 0, 12, 0, 9, 0},
			sight{[]string{"ttfffff", "ttttfff", "ftttfff", "ftttttf", "ffftttf", "ffftttt", "ffffftt"},
				[]int{1, 3, 3, 5, 5, 6, 6}, []int{0, 1, 3, 5, 6}, []int{1, 5}},
			[]light{{0, 1, "ffftftt"}, {3, 2, "ftftftt"}, {12, 1, "ttttttt"}}},
		{"a comb, and several sets of three guards", []int{0, 1, 0, 1, 0, 1, 0, 1, 0},
			sight{[]string{"ttfffffff", "ttttftftf", "ftttfffff", "ftttttftf", "ffftttfff", "ftftttttf", "ffffftttf", "ftftftttt", "ffffffftt"},
				[]int{1, 7, 3, 7, 5, 7, 7, 8, 8}, []int{0, 1, 7, 8}, []int{0, 3, 7}},
			[]light{{0, 1, "ftftftftt"}, {1, 2, "ftftftftt"}, {1, 1, "ttttttttt"}}},
	}
}

// sightProfiles returns the sample profiles, and those written out here, also backwards.
func sightProfiles() [][]int {
	profiles := sampleProfiles()
	for _, c := range sightCases() {
		profiles = append(profiles, c.p, backwards(c.p))
	}
	return profiles
}

// forEachProfile checks each of the profiles, until one is wrong.
func forEachProfile(t *testing.T, check func(p []int) bool) {
	t.Helper()
	for _, p := range sightProfiles() {
		if !check(p) {
			t.Fatalf("%v: %+v", p, sightOf(p))
		}
	}
}

// forEachSun checks each of the profiles with each line by which the sun may shine, until one is wrong.
func forEachSun(t *testing.T, check func(p []int, up, across int) bool) {
	t.Helper()
	for _, p := range sightProfiles() {
		for up := range impl.MaxHeight + 1 {
			for across := 1; across <= impl.MaxProfile; across++ {
				if !check(p, up, across) {
					t.Fatalf("%v: LitBy %d over %d is %s", p, up, across, letters(impl.LitBy(p, up, across)))
				}
			}
		}
	}
}

// whole is a multiple of each number of steps: taken so many times, the heights of all lines are whole numbers.
const whole = 2520

// lineAt returns the height, taken whole times, of the line between two places of a profile at one.
func lineAt(p []int, i, k, at int) int {
	return p[i]*whole + (p[k]-p[i])*whole/(k-i)*(at-i)
}

// seenByHeights is SeenFrom told by the heights of the line at each place between both.
func seenByHeights(p []int, i int) []bool {
	seen := make([]bool, len(p))
	for k := range p {
		seen[k] = true
		for at := min(i, k) + 1; at < max(i, k); at++ {
			if p[at]*whole > lineAt(p, i, k, at) {
				seen[k] = false
			}
		}
	}
	return seen
}

// roofByLines is RoofOf told by the curve itself: at each place it is as high as the highest line over it.
func roofByLines(p []int) []int {
	curve := make([]int, len(p))
	for at := range p {
		curve[at] = p[at] * whole
		for i := range at + 1 {
			for k := max(at, i+1); k < len(p); k++ {
				curve[at] = max(curve[at], lineAt(p, i, k, at))
			}
		}
	}
	var roof []int
	for at := range p {
		if at == 0 || at == len(p)-1 || 2*curve[at] != curve[at-1]+curve[at+1] {
			roof = append(roof, at)
		}
	}
	return roof
}

// setsOf returns all sets of so many of the first places, each one ascending.
func setsOf(places, size int) [][]int {
	if size == 0 {
		return [][]int{nil}
	}
	var sets [][]int
	for last := range places {
		for _, set := range setsOf(last, size-1) {
			sets = append(sets, append(slices.Clone(set), last))
		}
	}
	return sets
}

// allSeenFrom reports whether each place of a profile is seen from one of the set.
func allSeenFrom(p []int, set []int) bool {
	seen := make([]bool, len(p))
	for _, i := range set {
		for k, one := range seenByHeights(p, i) {
			seen[k] = seen[k] || one
		}
	}
	return !slices.Contains(seen, false)
}

// powersOf returns the sum of 2 to each place of a set.
func powersOf(set []int) int {
	sum := 0
	for _, i := range set {
		power := 1
		for range i {
			power *= 2
		}
		sum += power
	}
	return sum
}

// guardsBySize is GuardsOf told by sizes: of the least one for which there are sets that see all, that with the least sum.
func guardsBySize(p []int) []int {
	for size := 1; ; size++ {
		sets := slices.DeleteFunc(setsOf(len(p), size), func(set []int) bool { return !allSeenFrom(p, set) })
		if len(sets) > 0 {
			return slices.MinFunc(sets, func(a, b []int) int { return powersOf(a) - powersOf(b) })
		}
	}
}

// litByHeights is LitBy told by the heights of the sun's line at each place behind one.
func litByHeights(p []int, up, across int) []bool {
	lit := make([]bool, len(p))
	for i := range p {
		lit[i] = true
		for k := i + 1; k < len(p); k++ {
			if p[k]*whole > p[i]*whole+up*whole/across*(k-i) {
				lit[i] = false
			}
		}
	}
	return lit
}

func TestSightsThatAreWrittenOut(t *testing.T) {
	for _, c := range sightCases() {
		if got := sightOf(c.p); !reflect.DeepEqual(got, c.want) {
			t.Errorf("%s: %+v, not %+v", c.name, got, c.want)
		}
		for _, l := range c.lights {
			if got := letters(impl.LitBy(c.p, l.up, l.across)); got != l.lit {
				t.Errorf("%s: LitBy %d over %d is %s, not %s", c.name, l.up, l.across, got, l.lit)
			}
		}
	}
}

func TestPromise30ProfilesMayBeTurned(t *testing.T) {
	forEachProfile(t, func(p []int) bool {
		return impl.ValidProfile(p) && impl.ValidProfile(backwards(p))
	})
	for what, p := range badProfiles() {
		if impl.ValidProfile(p) || impl.ValidProfile(backwards(p)) {
			t.Errorf("%s: ValidProfile holds", what)
		}
	}
}

func TestValidProfileAtItsLimits(t *testing.T) {
	for places := 1; places <= impl.MaxProfile; places++ {
		for _, height := range []int{0, impl.MaxHeight} {
			if !impl.ValidProfile(profileOf(places, func(int) int { return height })) {
				t.Errorf("ValidProfile does not hold of %d places and the height %d", places, height)
			}
		}
	}
	if impl.MaxProfile != 9 {
		t.Errorf("limit %d", impl.MaxProfile)
	}
}

func TestPromise31SightGoesBothWays(t *testing.T) {
	forEachProfile(t, func(p []int) bool {
		for i := range p {
			seen := impl.SeenFrom(p, i)
			if !slices.Equal(seen, seenByHeights(p, i)) {
				return false
			}
			for k := range p {
				if seen[k] != impl.SeenFrom(p, k)[i] || !seen[k] && max(i-k, k-i) <= 1 {
					return false
				}
			}
		}
		return true
	})
}

func TestWhatIsSeenBackwards(t *testing.T) {
	forEachProfile(t, func(p []int) bool {
		last := len(p) - 1
		for i := range p {
			if !slices.Equal(impl.SeenFrom(backwards(p), last-i), backwards(impl.SeenFrom(p, i))) {
				return false
			}
		}
		var roof []int
		for _, i := range backwards(impl.RoofOf(p)) {
			roof = append(roof, last-i)
		}
		return slices.Equal(impl.RoofOf(backwards(p)), roof) && len(impl.GuardsOf(backwards(p))) == len(impl.GuardsOf(p))
	})
}

// isUnder reports whether nothing of a profile is above the lines between places next to each other of a roof.
func isUnder(p, roof []int) bool {
	for n := 1; n < len(roof); n++ {
		for at := roof[n-1]; at <= roof[n]; at++ {
			if p[at]*whole > lineAt(p, roof[n-1], roof[n], at) {
				return false
			}
		}
	}
	return true
}

// fallsMoreAndMore reports whether each line of a roof rises less, or falls more, than the one ahead of it.
func fallsMoreAndMore(p, roof []int) bool {
	for n := 2; n < len(roof); n++ {
		ahead, at, behind := roof[n-2], roof[n-1], roof[n]
		if p[at]*whole <= lineAt(p, ahead, behind, at) {
			return false
		}
	}
	return true
}

func TestPromise32RoofsSeeEachOther(t *testing.T) {
	forEachProfile(t, func(p []int) bool {
		roof := impl.RoofOf(p)
		if !slices.Equal(roof, roofByLines(p)) || roof[0] != 0 || roof[len(roof)-1] != len(p)-1 {
			return false
		}
		highest := slices.Max(p)
		if !slices.ContainsFunc(roof, func(i int) bool { return p[i] == highest }) {
			return false
		}
		for n := 1; n < len(roof); n++ {
			if roof[n-1] >= roof[n] || !impl.SeenFrom(p, roof[n])[roof[n-1]] {
				return false
			}
		}
		return isUnder(p, roof) && fallsMoreAndMore(p, roof)
	})
}

// lastOf returns the last place for which an answer is true.
func lastOf(answers []bool) int {
	return len(answers) - 1 - slices.Index(backwards(answers), true)
}

func TestPromise33TheFurthestPlaceIsTheLastThatIsSeen(t *testing.T) {
	forEachProfile(t, func(p []int) bool {
		for i := range p {
			furthest := impl.FurthestOf(p, i)
			if furthest != lastOf(impl.SeenFrom(p, i)) || furthest != lastOf(seenByHeights(p, i)) {
				return false
			}
		}
		return true
	})
}

func TestPromise34GuardsSeeAll(t *testing.T) {
	forEachProfile(t, func(p []int) bool {
		guards := impl.GuardsOf(p)
		for n := range guards {
			if allSeenFrom(p, slices.Delete(slices.Clone(guards), n, n+1)) {
				return false
			}
		}
		return allSeenFrom(p, guards) && slices.Equal(guards, guardsBySize(p))
	})
}

func TestPromise35AHigherSunShinesOnMore(t *testing.T) {
	forEachSun(t, func(p []int, up, across int) bool {
		lit := impl.LitBy(p, up, across)
		if !slices.Equal(lit, litByHeights(p, up, across)) || !lit[len(p)-1] {
			return false
		}
		for i := range p {
			if up < impl.MaxHeight && lit[i] && !impl.LitBy(p, up+1, across)[i] {
				return false
			}
			if up == 0 && lit[i] != (p[i] == slices.Max(p[i:])) {
				return false
			}
		}
		return true
	})
}

func TestPromise74TiltedGroundHidesNothingMore(t *testing.T) {
	tilted := 0
	forEachProfile(t, func(p []int) bool {
		steeper := profileOf(len(p), func(k int) int { return p[k] + k })
		if !isWithinHeights(steeper) {
			return true
		}
		if len(p) > 2 {
			tilted++
		}
		for i := range p {
			if !slices.Equal(impl.SeenFrom(steeper, i), impl.SeenFrom(p, i)) {
				return false
			}
		}
		return true
	})
	if tilted < 1000 {
		t.Errorf("only %d profiles of more than two places could be tilted", tilted)
	}
}

func TestPromise75RoofsAreFar(t *testing.T) {
	forEachProfile(t, func(p []int) bool {
		roof := impl.RoofOf(p)
		for n := 1; n < len(roof); n++ {
			if impl.FurthestOf(p, roof[n-1]) < roof[n] {
				return false
			}
		}
		return true
	})
}

func TestPromise76WhatIsLitSeesTheSun(t *testing.T) {
	forEachProfile(t, func(p []int) bool {
		last := len(p) - 1
		for i := range last {
			up := p[last] - p[i]
			if up < 0 {
				continue
			}
			// Both are told by the same line, so what is not lit does not see it either.
			if impl.LitBy(p, up, last-i)[i] != impl.SeenFrom(p, i)[last] {
				return false
			}
		}
		return true
	})
}

func TestNothingIsSeenOfNumbersThatAreNoProfile(t *testing.T) {
	for what, p := range badProfiles() {
		before := slices.Clone(p)
		if roof, guards := impl.RoofOf(p), impl.GuardsOf(p); len(roof) != 0 || len(guards) != 0 {
			t.Errorf("%s: RoofOf = %v, GuardsOf = %v", what, roof, guards)
		}
		for _, i := range append(badPlaces(p), 0, 1, 8) {
			if seen, furthest := impl.SeenFrom(p, i), impl.FurthestOf(p, i); len(seen) != 0 || furthest != -1 {
				t.Errorf("%s: SeenFrom %d = %v, FurthestOf %d = %d", what, i, seen, i, furthest)
			}
		}
		for _, l := range append(badSuns(), light{0, 1, ""}, light{1, 1, ""}, light{12, 9, ""}) {
			if lit := impl.LitBy(p, l.up, l.across); len(lit) != 0 {
				t.Errorf("%s: LitBy %d over %d = %v", what, l.up, l.across, lit)
			}
		}
		if !slices.Equal(p, before) {
			t.Errorf("%s: changed to %v", what, p)
		}
	}
}

func TestNothingIsSeenFromOtherPlaces(t *testing.T) {
	forEachProfile(t, func(p []int) bool {
		for _, i := range badPlaces(p) {
			if len(impl.SeenFrom(p, i)) != 0 || impl.FurthestOf(p, i) != -1 {
				t.Errorf("SeenFrom %d = %v, FurthestOf %d = %d", i, impl.SeenFrom(p, i), i, impl.FurthestOf(p, i))
				return false
			}
		}
		return true
	})
}

// badSuns returns lines by which no sun may shine.
func badSuns() []light {
	var suns []light
	for _, up := range []int{-1, impl.MaxHeight + 1, math.MinInt, math.MaxInt} {
		for _, across := range []int{1, 5, impl.MaxProfile} {
			suns = append(suns, light{up, across, ""})
		}
	}
	for _, across := range []int{-1, 0, impl.MaxProfile + 1, math.MinInt, math.MaxInt} {
		for _, up := range []int{-1, 0, 1, impl.MaxHeight, impl.MaxHeight + 1} {
			suns = append(suns, light{up, across, ""})
		}
	}
	return suns
}

func TestNothingIsLitByOtherSuns(t *testing.T) {
	for _, p := range sightProfiles() {
		for _, l := range badSuns() {
			if lit := impl.LitBy(p, l.up, l.across); len(lit) != 0 {
				t.Fatalf("%v: LitBy %d over %d = %v", p, l.up, l.across, lit)
			}
		}
	}
}

// within returns memory with the greatest height on both sides of a profile, and the part of it that is the profile.
func within(p []int) ([]int, []int) {
	memory := slices.Concat([]int{impl.MaxHeight}, p, []int{impl.MaxHeight, impl.MaxHeight})
	return memory, memory[1 : len(p)+1]
}

func TestSightKeepsItsProfileAndWhatStandsBesideIt(t *testing.T) {
	forEachProfile(t, func(p []int) bool {
		memory, part := within(p)
		before := slices.Clone(memory)
		if !reflect.DeepEqual(sightOf(part), sightOf(slices.Clip(slices.Clone(p)))) {
			return false
		}
		if !slices.Equal(impl.LitBy(part, 1, 2), impl.LitBy(slices.Clone(p), 1, 2)) {
			return false
		}
		return slices.Equal(memory, before)
	})
}

func TestSightsAreTheirOwn(t *testing.T) {
	forEachProfile(t, func(p []int) bool {
		memory, part := within(p)
		before := slices.Clone(memory)
		want := sightOf(p)
		overwrite(impl.RoofOf(part), impl.GuardsOf(part))
		for i := range part {
			clear(impl.SeenFrom(part, i))
		}
		clear(impl.LitBy(part, 1, 2))
		return slices.Equal(memory, before) && reflect.DeepEqual(sightOf(part), want) &&
			slices.Equal(impl.LitBy(part, 1, 2), litByHeights(p, 1, 2))
	})
}
