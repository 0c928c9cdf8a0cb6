package tests

import (
	"fmt"
	"regexp"
	"slices"
	"strconv"
	"strings"
	"testing"

	"loop.example/wateronheights/impl"
)

// deskCase is lines of a desk, each one with its answer, written out.
type deskCase struct {
	name  string
	asked [][2]string
}

func (c deskCase) lines() []string {
	var lines []string
	for _, pair := range c.asked {
		lines = append(lines, pair[0])
	}
	return lines
}

func (c deskCase) answers() []string {
	var answers []string
	for _, pair := range c.asked {
		answers = append(answers, pair[1])
	}
	return answers
}

func deskCases() []deskCase {
	return slices.Concat(oneCellDeskCases(), rowDeskCases(), oddDeskCases(), largestDeskCases(), stayingDeskCases())
}

func oneCellDeskCases() []deskCase {
	return []deskCase{
		{"no lines", nil},
		{"the first grid", [][2]string{
			{"fill", "0"}, {"flow", "-"}, {"areas", "1"}, {"keeps", "-"}, {"quad", "0;"},
			{"pour 0 0", "0 0"}, {"pour 0 1", "0 1"}, {"pour 0 60", "0 60"}, {"pour 0 61", "wrong"}, {"pour 1 0", "wrong"},
			{"spill 0", "0"}, {"spill 1", "wrong"}, {"climb 0 0", "0"}, {"climb 0 1", "wrong"}, {"climb 1 0", "wrong"}}},
		{"one cell of height 0", [][2]string{{"grid 0", "done"}, {"fill", "0"}, {"quad", "0;"}, {"pour 0 7", "0 7"}, {"spill 0", "0"}}},
		{"one cell", [][2]string{
			{"grid 7", "done"}, {"fill", "7"}, {"flow", "-"}, {"areas", "1"}, {"keeps", "-"}, {"quad", "7;"},
			{"pour 0 0", "7 0"}, {"pour 0 9", "7 9"}, {"spill 0", "7"}, {"spill 1", "wrong"}, {"climb 0 0", "0"}}},
		{"one cell of the greatest height", [][2]string{
			{"grid 12", "done"}, {"fill", "12"}, {"flow", "-"}, {"areas", "1"}, {"keeps", "-"}, {"quad", "12;"},
			{"pour 0 60", "12 60"}, {"spill 0", "12"}, {"climb 0 0", "0"}, {"grid 13", "wrong"}, {"fill", "12"}}},
	}
}

func rowDeskCases() []deskCase {
	return []deskCase{
		{"a row", [][2]string{
			{"grid 5,2,6,1,9", "done"}, {"fill", "5,2,6,1,9"}, {"flow", "1,-,3,-,3"}, {"areas", "1,2,1,3,1"}, {"keeps", "4,-"},
			{"quad", "(((5;2;..)6;..)(1;9;..)..)"}, {"pour 4 0", "5,2,6,1,9 0"}, {"pour 4 3", "5,2,6,1,9 3"}, {"pour 0 60", "5,2,6,1,9 60"},
			{"spill 1", "2"}, {"spill 2", "6"}, {"spill 4", "9"}, {"spill 5", "wrong"},
			{"climb 1 3", "4"}, {"climb 3 1", "5"}, {"climb 0 4", "12"}, {"climb 2 2", "0"}, {"climb 4 5", "wrong"}}},
		{"a column", [][2]string{
			{"grid 5/2/6/1/9", "done"}, {"fill", "5/2/6/1/9"}, {"flow", "1/-/3/-/3"}, {"areas", "1/2/1/3/1"}, {"keeps", "4,-"},
			{"quad", "(((5;.2;.).6;.).(1;.9;.).)"}, {"pour 4 0", "5/2/6/1/9 0"}, {"pour 4 3", "5/2/6/1/9 3"}, {"pour 0 60", "5/2/6/1/9 60"},
			{"spill 1", "2"}, {"spill 2", "6"}, {"spill 4", "9"}, {"spill 5", "wrong"},
			{"climb 1 3", "4"}, {"climb 3 1", "5"}, {"climb 0 4", "12"}, {"climb 2 2", "0"}, {"climb 5 4", "wrong"}}},
		{"several pits", [][2]string{
			{"grid 0,3,0,5,0", "done"}, {"keeps", "-,3,5"}, {"grid 2,5,1,3,0", "done"}, {"keeps", "3,2,-"},
			{"grid 0,12,0", "done"}, {"keeps", "-,12"}, {"grid 0/12/0", "done"}, {"keeps", "-,12"},
			{"grid 0,1,0/1,1,1/0,1,0", "done"}, {"keeps", "-,1,1,1"}, {"grid 9,3,9/0,5,2/9,1,9", "done"}, {"keeps", "2,-,3,4"}}},
	}
}

func oddDeskCases() []deskCase {
	return []deskCase{
		{"two rows of three", [][2]string{
			{"grid 1,2,3/4,5,6", "done"}, {"fill", "1,2,3/4,5,6"}, {"flow", "-,0,1/0,1,2"}, {"areas", "6,4,2/1,1,1"}, {"keeps", "-"},
			{"quad", "((1;2;..)3;(4;5;..)6;)"}, {"pour 5 2", "1,2,3/4,5,6 2"}, {"spill 5", "6"}, {"spill 6", "wrong"},
			{"climb 0 5", "5"}, {"climb 5 0", "0"}, {"climb 1 4", "3"}}},
		{"five rows of two", [][2]string{
			{"grid 1,2/3,4/5,6/7,8/9,10", "done"}, {"fill", "1,2/3,4/5,6/7,8/9,10"}, {"flow", "-,0/0,1/2,3/4,5/6,7"}, {"areas", "10,5/4,4/3,3/2,2/1,1"},
			{"keeps", "-"}, {"quad", "(((1;.3;.).5;.)((2;.4;.).6;.)(7;.9;.)(8;.10;.))"}, {"pour 9 7", "1,2/3,4/5,6/7,8/9,10 7"},
			{"spill 9", "10"}, {"spill 10", "wrong"}, {"climb 0 9", "9"}, {"climb 9 0", "0"}, {"climb 10 0", "wrong"}}},
		{"a bowl", [][2]string{
			{"grid 5,5,5/5,1,5/5,4,5", "done"}, {"fill", "5,5,5/5,4,5/5,4,5"}, {"flow", "-,4,-/4,7,4/7,-,7"}, {"areas", "1,1,1/1,4,1/1,7,1"}, {"keeps", "-"},
			{"quad", "((5;5;5;1;)5;(5;4;..)5;)"}, {"pour 4 0", "5,5,5/5,1,5/5,4,5 0"}, {"pour 4 2", "5,5,5/5,3,5/5,4,5 0"}, {"pour 4 3", "5,5,5/5,4,5/5,4,5 0"},
			{"pour 4 5", "5,5,5/5,4,5/5,4,5 2"}, {"pour 0 5", "5,5,5/5,1,5/5,4,5 5"}, {"pour 8 60", "5,5,5/5,4,5/5,4,5 57"},
			{"spill 0", "5"}, {"spill 4", "4"}, {"spill 7", "4"}, {"climb 4 0", "4"}, {"climb 0 4", "0"}, {"climb 4 7", "3"}, {"climb 4 4", "0"}}},
		{"two pits inside", [][2]string{
			{"grid 9,9,9,9,9/9,4,6,0,9/9,9,9,9,9", "done"}, {"fill", "9,9,9,9,9/9,9,9,9,9/9,9,9,9,9"}, {"keeps", "2,-"},
			{"pour 7 2", "9,9,9,9,9/9,4,6,2,9/9,9,9,9,9 0"}, {"pour 8 60", "9,9,9,9,9/9,9,9,9,9/9,9,9,9,9 43"},
			{"spill 7", "9"}, {"spill 14", "9"}, {"spill 15", "wrong"}, {"climb 6 8", "2"}, {"climb 8 6", "6"}, {"climb 8 14", "9"}}},
	}
}

func largestDeskCases() []deskCase {
	const deep = "12,12,12,12,12/12,0,0,0,12/12,0,0,0,12/12,0,0,0,12/12,12,12,12,12"
	const full = "12,12,12,12,12/12,12,12,12,12/12,12,12,12,12/12,12,12,12,12/12,12,12,12,12"
	const flow = "-,-,-,-,-/-,1,2,3,-/-,10,7,14,-/-,15,22,19,-/-,-,-,-,-"
	const areas = "1,2,3,2,1/1,1,2,1,1/2,1,1,1,2/2,1,1,1,2/1,1,2,1,1"
	return []deskCase{
		{"the largest grid, with a pit", [][2]string{
			{"grid " + deep, "done"}, {"fill", full}, {"flow", flow}, {"areas", areas}, {"keeps", "-"},
			{"quad", "(((12;12;12;0;)(12;.0;.)(12;0;..)0;)((12;.0;.)12;0;12;)((12;0;..)0;12;12;)(0;12;12;12;))"},
			{"pour 12 0", deep + " 0"}, {"pour 12 60", "12,12,12,12,12/12,7,7,7,12/12,7,7,7,12/12,6,6,6,12/12,12,12,12,12 0"},
			{"pour 24 60", deep + " 60"}, {"pour 24 61", "wrong"}, {"pour 25 60", "wrong"},
			{"spill 12", "12"}, {"spill 24", "12"}, {"spill 25", "wrong"},
			{"climb 12 24", "12"}, {"climb 24 12", "0"}, {"climb 0 24", "0"}, {"climb 6 18", "0"}, {"climb 25 0", "wrong"}}},
		{"the largest and highest grid", [][2]string{
			{"grid " + full, "done"}, {"fill", full}, {"flow", flow}, {"areas", areas}, {"keeps", "-"}, {"quad", "12;"},
			{"pour 12 60", full + " 60"}, {"spill 12", "12"}, {"climb 0 24", "0"}}},
	}
}

// stayingDeskCases are desks whose grid stays behind all lines but those that are answered by done.
func stayingDeskCases() []deskCase {
	const bowl = "5,5,5/5,1,5/5,4,5"
	return []deskCase{
		{"the grid stays behind drops", [][2]string{
			{"grid " + bowl, "done"}, {"pour 4 60", "5,5,5/5,4,5/5,4,5 57"}, {"pour 4 0", bowl + " 0"}, {"pour 4 1", "5,5,5/5,2,5/5,4,5 0"},
			{"pour 4 1", "5,5,5/5,2,5/5,4,5 0"}, {"climb 4 7", "3"}, {"fill", "5,5,5/5,4,5/5,4,5"}, {"fill", "5,5,5/5,4,5/5,4,5"}, {"climb 4 7", "3"}, {"pour 4 0", bowl + " 0"}}},
		{"the grid stays behind lines that are wrong", [][2]string{
			{"grid " + bowl, "done"}, {"grid 13", "wrong"}, {"spill 8", "5"}, {"grid 5,5,5/5,4,5/5,4", "wrong"}, {"climb 4 0", "4"}, {"grid", "wrong"}, {"grid ", "wrong"},
			{"pour 4 0", bowl + " 0"}, {"grid 7 ", "wrong"}, {"pour 9 1", "wrong"}, {"climb 0 9", "wrong"}, {"spill 9", "wrong"}, {"Grid 7", "what"}, {"fill 7", "what"}, {"", "what"},
			{"quad", "((5;5;5;1;)5;(5;4;..)5;)"}}},
		{"the first grid stays behind lines that are wrong", [][2]string{
			{"grid 5,", "wrong"}, {"fill", "0"}, {"grid 5/5,5", "wrong"}, {"spill 1", "wrong"}, {"spill 0", "0"}, {"grid 13", "wrong"}, {"pour 0 2", "0 2"}}},
		{"one grid behind the other", [][2]string{
			{"grid 7", "done"}, {"spill 0", "7"}, {"spill 1", "wrong"}, {"grid 0,9", "done"}, {"spill 1", "9"}, {"climb 0 1", "9"},
			{"grid 0,9", "done"}, {"climb 1 0", "0"}, {"flow", "-,0"}, {"grid 9/0", "done"}, {"flow", "1/-"}, {"areas", "1/2"}, {"fill", "9/0"},
			{"grid 0", "done"}, {"spill 1", "wrong"}, {"flow", "-"}}},
		{"the lines of all kinds in one desk", [][2]string{
			{"keeps", "-"}, {"quad", "0;"}, {"grid " + bowl, "done"}, {"fill", "5,5,5/5,4,5/5,4,5"}, {"flow", "-,4,-/4,7,4/7,-,7"}, {"areas", "1,1,1/1,4,1/1,7,1"},
			{"spill 4", "4"}, {"climb 4 0", "4"}, {"pour 9 1", "wrong"}, {"pour 1", "wrong"}, {"grid", "wrong"}, {"grid 1,2/3", "wrong"}, {"help", "what"}, {"", "what"}, {"fill x", "what"}}},
	}
}

// inWriting returns rows or numbers as a desk writes them.
func inWriting(numbers any) string {
	return strings.NewReplacer("] [", "/", "[", "", "]", "", " ", ",", "-1", "-").Replace(fmt.Sprint(numbers))
}

// answersTo returns the answers of a desk, one by one.
func answersTo(t *testing.T, lines []string) []string {
	t.Helper()
	told := impl.RunDesk(lines)
	answers := strings.SplitAfter(told, "\n")
	last := len(answers) - 1
	if answers[last] != "" || last != len(lines) {
		t.Fatalf("RunDesk(%q) = %q, which is not one line for each line", lines, told)
	}
	for n := range answers[:last] {
		answers[n] = strings.TrimSuffix(answers[n], "\n")
	}
	return answers[:last]
}

// checkAnswers checks the answers of a desk line by line.
func checkAnswers(t *testing.T, lines, want []string) {
	t.Helper()
	for n, got := range answersTo(t, lines) {
		if got != want[n] {
			t.Fatalf("the line %q behind %q has the answer %q, not %q", lines[n], lines[:n], got, want[n])
		}
	}
}

// paper is the grid of a desk that is told by patterns of whole lines.
type paper struct{ h [][]int }

const (
	aHeight = `(?:[0-9]|1[0-2])`
	aRow    = aHeight + `(?:,` + aHeight + `){0,4}`
	aCell   = `([0-9]|1[0-9]|2[0-4])`
	drops   = `([0-9]|[1-5][0-9]|60)`
)

var (
	gridLine    = regexp.MustCompile(`^grid (` + aRow + `(?:/` + aRow + `){0,4})$`)
	pourLine    = regexp.MustCompile(`^pour ` + aCell + ` ` + drops + `$`)
	spillLine   = regexp.MustCompile(`^spill ` + aCell + `$`)
	climbLine   = regexp.MustCompile(`^climb ` + aCell + ` ` + aCell + `$`)
	wantingLine = regexp.MustCompile(`^(?:grid|pour|spill|climb)(?: |$)`)
)

// lay makes the grid of a line the grid, and reports whether it has one, whose rows are of one length.
func (p *paper) lay(line string) bool {
	found := gridLine.FindStringSubmatch(line)
	if found == nil {
		return false
	}
	var h [][]int
	for _, row := range strings.Split(found[1], "/") {
		h = append(h, numbersIn(row))
		if len(h[len(h)-1]) != len(h[0]) {
			return false
		}
	}
	p.h = h
	return true
}

// numbersIn returns all numbers of a text.
func numbersIn(text string) []int {
	var numbers []int
	for _, digits := range regexp.MustCompile(`[0-9]+`).FindAllString(text, -1) {
		number, _ := strconv.Atoi(digits)
		numbers = append(numbers, number)
	}
	return numbers
}

// hasCells reports whether the first numbers of a line of the pattern, so many of them, are cells of the grid.
func (p *paper) hasCells(pattern *regexp.Regexp, line string, count int) bool {
	if !pattern.MatchString(line) {
		return false
	}
	return slices.Max(numbersIn(line)[:count]) < cellsOf(p.h)
}

func (p *paper) answerTo(line string) string {
	switch n := numbersIn(line); {
	case p.lay(line):
		return "done"
	case p.hasCells(pourLine, line, 1):
		wet, off := impl.PourAt(p.h, n[0], n[1])
		return inWriting(wet) + " " + fmt.Sprint(off)
	case p.hasCells(spillLine, line, 1):
		return fmt.Sprint(impl.SpillOf(p.h, n[0]))
	case p.hasCells(climbLine, line, 2):
		return fmt.Sprint(impl.ClimbBetween(p.h, n[0], n[1]))
	case wantingLine.MatchString(line):
		return "wrong"
	default:
		return p.answerAlone(line)
	}
}

func (p *paper) answerAlone(line string) string {
	switch line {
	case "fill":
		return inWriting(impl.FillByQueue(p.h))
	case "flow":
		return inWriting(impl.FlowOf(p.h))
	case "areas":
		return inWriting(impl.AreasOf(p.h))
	case "keeps":
		return inWriting(impl.KeepsOf(p.h))
	case "quad":
		return impl.QuadOf(p.h)
	default:
		return "what"
	}
}

// answersByPatterns are the answers of a desk, told by patterns.
func answersByPatterns(lines []string) []string {
	p := paper{[][]int{{0}}}
	var answers []string
	for _, line := range lines {
		answers = append(answers, p.answerTo(line))
	}
	return answers
}

// checkByPatterns checks the answers to lines on the grid, and reports those of each kind; behind each one the grid is told.
func checkByPatterns(t *testing.T, h [][]int, lines []string) map[string]int {
	t.Helper()
	kinds := map[string]int{}
	for _, line := range lines {
		asked := []string{"grid " + inWriting(h), line, "pour 0 0"}
		want := answersByPatterns(asked)
		checkAnswers(t, asked, want)
		kinds[want[1]]++
	}
	return kinds
}

// linesOf returns lines that are right for the grid: one of each command alone, and one for each cell and each two cells side by side.
func linesOf(h [][]int) []string {
	lines := []string{"grid " + inWriting(h), "fill", "flow", "areas", "keeps", "quad"}
	for i := range cellsOf(h) {
		k := (i + 1) % cellsOf(h)
		lines = append(lines, fmt.Sprintf("pour %d %d", i, (7*i+5)%(impl.MaxDrops+1)), fmt.Sprintf("spill %d", i), fmt.Sprintf("climb %d %d", i, k), fmt.Sprintf("climb %d %d", k, i))
	}
	return lines
}

// desksOn returns desks of at most MaxDesk lines that all begin with the grid, and have all the lines.
func desksOn(h [][]int, lines []string) [][]string {
	var desks [][]string
	for some := range slices.Chunk(lines, impl.MaxDesk-1) {
		desks = append(desks, append([]string{"grid " + inWriting(h)}, some...))
	}
	return desks
}

func TestDesksThatAreWrittenOut(t *testing.T) {
	for _, c := range deskCases() {
		t.Run(c.name, func(t *testing.T) { checkAnswers(t, c.lines(), c.answers()) })
	}
}

func TestAnswersAreThoseWrittenOutInOtherChapters(t *testing.T) {
	for _, c := range filledCases() {
		checkAnswers(t, []string{"grid " + inWriting(c.h), "fill"}, []string{"done", inWriting(c.water)})
	}
	for _, c := range flowCases() {
		checkAnswers(t, []string{"grid " + inWriting(c.h), "flow", "areas"}, []string{"done", inWriting(c.flow), inWriting(c.areas)})
	}
	for _, c := range passCases() {
		checkAnswers(t, []string{"grid " + inWriting(c.h), "keeps"}, []string{"done", inWriting(c.keeps)})
	}
	for _, c := range quadCases() {
		checkAnswers(t, []string{"grid " + inWriting(c.h), "quad"}, []string{"done", c.text})
	}
	for _, c := range wayCases() {
		for _, way := range c.ways {
			line := fmt.Sprintf("climb %d %d", way.cells[0], way.cells[len(way.cells)-1])
			checkAnswers(t, []string{"grid " + inWriting(c.h), line}, []string{"done", fmt.Sprint(way.climb)})
		}
	}
	for _, c := range pourCases() {
		for _, want := range c.want {
			wet := cloneRows(c.h)
			for i, higher := range want.higher {
				wet[i/len(wet[0])][i%len(wet[0])] += higher
			}
			line := fmt.Sprintf("pour %d %d", c.cell, want.n)
			checkAnswers(t, []string{"grid " + inWriting(c.h), line}, []string{"done", inWriting(wet) + " " + fmt.Sprint(want.off)})
		}
	}
}

func TestSpillsOfDesksAreToldByLevels(t *testing.T) {
	for _, c := range filledCases() {
		for i := range cellsOf(c.h) {
			checkAnswers(t, []string{"grid " + inWriting(c.h), fmt.Sprintf("spill %d", i)}, []string{"done", fmt.Sprint(heightAt(c.water, i))})
		}
	}
}

func TestDesksAnswerForAllGrids(t *testing.T) {
	for _, h := range sampleGrids() {
		for _, lines := range desksOn(h, linesOf(h)) {
			want := answersByPatterns(lines)
			if slices.Contains(want, "wrong") || slices.Contains(want, "what") {
				t.Fatalf("%q are told as not right: %q", lines, want)
			}
			checkAnswers(t, lines, want)
		}
	}
}

// mixedDesks returns so many desks of up to MaxDesk lines, right ones and others in any order, the same in each run.
func mixedDesks(count int) [][]string {
	mixed := mixer(12)
	var pool []string
	for _, h := range [][][]int{{{0}}, {{5, 2, 6, 1, 9}}, {{3}, {1}, {12}}, {{5, 5, 5}, {5, 1, 5}, {5, 4, 5}}, constantRows(5, 5, 10), {{1, 12, 1}, {0, 12, 2}}} {
		// Grids come often, so that there are many in one desk.
		pool = append(pool, slices.Repeat([]string{"grid " + inWriting(h)}, 5)...)
		pool = append(pool, linesOf(h)...)
	}
	pool = append(pool, wrongLines()...)
	pool = append(pool, unknownLines()...)
	var desks [][]string
	for n := range count {
		lines := make([]string, n%(impl.MaxDesk+1))
		for k := range lines {
			lines[k] = pool[mixed(len(pool))]
		}
		desks = append(desks, lines)
	}
	return desks
}

func TestPromise63EachLineHasAnAnswer(t *testing.T) {
	for _, lines := range mixedDesks(4000) {
		all := impl.RunDesk(lines)
		if strings.Count(all, "\n") != len(lines) {
			t.Fatalf("RunDesk(%q) = %q, of %d lines", lines, all, strings.Count(all, "\n"))
		}
		for first := range len(lines) + 1 {
			if begun := impl.RunDesk(lines[:first]); !strings.HasPrefix(all, begun) || strings.Count(begun, "\n") != first {
				t.Fatalf("RunDesk(%q) = %q, but of the first %d lines %q", lines, all, first, begun)
			}
		}
		if slices.Contains(answersTo(t, lines), "") {
			t.Fatalf("RunDesk(%q) = %q, with no answer to a line", lines, all)
		}
	}
}

func TestMixedDesksAreToldByPatterns(t *testing.T) {
	for _, lines := range mixedDesks(8000) {
		checkAnswers(t, lines, answersByPatterns(lines))
	}
}

func TestGridsStayUntilTheNextOne(t *testing.T) {
	for _, line := range slices.Concat(wrongLines(), unknownLines(), linesOf([][]int{{5, 5, 5}, {5, 1, 5}, {5, 4, 5}})[1:]) {
		lines := []string{"pour 0 0", "grid 5,5,5/5,1,5/5,4,5", line, "pour 4 0", line, "fill", "grid 7,8", "pour 0 0"}
		want := answersByPatterns(lines)
		if want[3] != "5,5,5/5,1,5/5,4,5 0" || want[5] != "5,5,5/5,4,5/5,4,5" || want[7] != "7,8 0" {
			t.Fatalf("%q are told as %q", lines, want)
		}
		checkAnswers(t, lines, want)
	}
}

func TestNumbersOfLines(t *testing.T) {
	if impl.MaxDesk != 20 {
		t.Errorf("MaxDesk is %d", impl.MaxDesk)
	}
	if impl.RunDesk(nil) != "" || impl.RunDesk([]string{}) != "" {
		t.Error("no lines have an answer")
	}
	for _, line := range []string{"", "fill", "grid 7", "grid", "help"} {
		for count := range 3 * impl.MaxDesk {
			lines := slices.Repeat([]string{line}, count)
			want := strings.Join(answersByPatterns(lines), "\n") + "\n"
			if count == 0 || count > impl.MaxDesk {
				want = ""
			}
			if got := impl.RunDesk(lines); got != want {
				t.Errorf("RunDesk of %d lines of %q = %q, not %q", count, line, got, want)
			}
		}
	}
	if impl.RunDesk(make([]string, 1000000)) != "" {
		t.Error("far too many lines have an answer")
	}
	lines := make([]string, impl.MaxDesk)
	lines[0], lines[impl.MaxDesk-1] = "grid 7,8", "fill"
	if got := impl.RunDesk(lines); got != "done\n"+strings.Repeat("what\n", impl.MaxDesk-2)+"7,8\n" {
		t.Errorf("RunDesk(%q) = %q", lines, got)
	}
}

// badNumbers are numbers that are not written as they must be, or are no cell of any grid, no height and no number of drops.
func badNumbers() []string {
	return []string{
		"", "x", "-", "+", "-1", "-0", "+0", "+1", "00", "01", "007", "0001", "--1", "1-", "61", "100", "1000", "1.0", "1.", ".1", "0x1", "0b1", "0o1", "1e0", "1_0", "_1", "1h", "one", "'1'", "(1)", "1;", "1:",
		"\t1", "1\t", "1\n", "\n1", "1\r", "1\x00", "\x001", "1\xff", "\xff", "\xc2", "1\u00a0", "\u00a01", "\ufeff1", "1\u200b", "\u0661", "\uff11", "\u00b9", "\u0967", "\u2460", "\u2212" + "1", "\u00bd",
		"127", "128", "255", "256", "257", "65535", "65536", "65537", "2147483647", "2147483648", "4294967295", "4294967296", "4294967297", "-4294967295",
		"9223372036854775807", "9223372036854775808", "-9223372036854775808", "-9223372036854775809", "18446744073709551615", "18446744073709551616", "18446744073709551617", "-18446744073709551615",
		"340282366920938463463374607431768211457", "1" + strings.Repeat("0", 400), strings.Repeat("0", 400) + "1", strings.Repeat("1", 400), strings.Repeat("9", 5000),
	}
}

// wrongLines returns lines that are answered by wrong on each grid of at most nine cells.
func wrongLines() []string {
	lines := slices.Concat(wrongGridLines(), wrongNumberLines())
	for _, number := range badNumbers() {
		lines = append(lines, "grid "+number, "grid 5,"+number, "grid "+number+",5", "grid 5/"+number, "grid "+number+"/5", "grid 5,5/5,"+number, "grid 5,"+number+"/5,5",
			"pour "+number+" 0", "pour 0 "+number, "spill "+number, "climb "+number+" 0", "climb 0 "+number)
	}
	return lines
}

func wrongGridLines() []string {
	return []string{
		"grid", "grid ", "grid  ", "grid  5", "grid   5", "grid 5 ", "grid 5  ", "grid 5 5", "grid 5, 5", "grid 5 ,5", "grid 5/ 5", "grid 5 /5", "grid 5,5 /5,5", "grid 5,5/ 5,5", "grid 5 5/5 5",
		"grid 5,", "grid ,5", "grid 5,,5", "grid ,", "grid ,,", "grid /", "grid //", "grid 5/", "grid /5", "grid 5//5", "grid 5,/5", "grid 5/,5", "grid ,/,", "grid ,5/,5", "grid 5,/5,", "grid 5,5,/5,5,", "grid 5,5/", "grid /5,5",
		"grid 5,5//5,5", "grid 5,5/5", "grid 5/5,5", "grid 5,5/5,5,5", "grid 5,5,5/5,5", "grid 5,5,5/5,5/5,5,5", "grid 5,5/5,5/5", "grid 5/5/5,5", "grid 5,5,5/5,5,5/5,5,", "grid 5,5,5/5,5,5/",
		"grid 13", "grid 5,13", "grid 13,5", "grid 5/13", "grid 13/5", "grid 20", "grid 99", "grid 5,5,5/5,14,5/5,5,5", "grid 55", "grid 5555",
		"grid 5,5,5,5,5,5", "grid 5/5/5/5/5/5", "grid 1,1,1,1,1,1/1,1,1,1,1,1", "grid 1,1/1,1/1,1/1,1/1,1/1,1", "grid " + inWriting(constantRows(6, 6, 1)), "grid " + inWriting(constantRows(6, 5, 1)),
		"grid " + inWriting(constantRows(5, 6, 1)), "grid " + inWriting(constantRows(100, 100, 1)), "grid " + inWriting(constantRows(1, 100, 0)), "grid " + inWriting(constantRows(100, 1, 0)),
		"grid 5;5", "grid 5|5", "grid 5\\5", "grid 5.5", "grid 5\n5", "grid 5,5\n5,5", "grid 5,5/5,5\n", "grid [5]", "grid [[5]]", "grid {{5}}", "grid \"5\"", "grid done", "grid grid 5", "grid 5 grid 5", "grid 5/5 fill",
		"grid -,-", "grid 5,-", "grid 0;", "grid (1;2;3;4;)", "grid 5\uff0c5", "grid 5\u20445", "grid 5\u060c5", "grid \u8349", "grid \xff", "grid 5,\xff", "grid 5\x00,5", "grid \t5", "grid \n", "grid \u00a05",
		"grid " + strings.Repeat(",", 1000), "grid " + strings.Repeat("/", 1000), "grid " + strings.Repeat(" ", 1000), "grid " + strings.Repeat("5,", 25),
	}
}

func wrongNumberLines() []string {
	lines := []string{
		"spill", "spill ", "spill  ", "spill  0", "spill 0 ", "spill 0 0", "spill 0,0", "spill 0/0", "spill 9", "spill 10", "spill 25", "spill 0 x", "spill spill 0", "spill 0\n", "spill \u0660",
		"pour 0 0,0", "pour 0 0/0", "pour 9 0", "pour 25 0", "pour 0 61", "pour 0 62", "pour 0 99", "pour 9 61", "pour 0 0 done",
		"climb 0 9", "climb 9 0", "climb 9 9", "climb 0 25", "climb 25 25", "climb 0 -", "climb - 0",
	}
	for _, word := range []string{"pour", "climb"} {
		for _, rest := range []string{
			"", " ", "  ", "   ", " 0", " 0 ", "  0", "  0 0", " 0  0", " 0 0 ", " 0 0  ", " 0 0 0", " 0 0 x", " 0,0", " 0/0", " 0\t0", " 0\n0", " 0 0\n", " 0 \t0", " 0\u00a00", " 00", " 0 0 0 0", " x", " x y", " " + word + " 0 0",
		} {
			lines = append(lines, word+rest)
		}
	}
	return lines
}

// unknownLines returns lines that are answered by what.
func unknownLines() []string {
	lines := []string{
		"", " ", "  ", "\n", "\t", "\x00", "\xff", "\u00a0", "x", "0", "-", "-1", "?", ".", ",", "/", "5,5/5,5", "done", "wrong", "what", "help", "grid5", "grid0,0", "area", "keep", "water", "lakes", "peaks", "sum", "sight", "exit",
		"FillByQueue", "FlowOf", "PourAt 0 0", "SpillOf 0", "g rid 0", "gr id 0", "grid,0", "grid/0", "grid-0", "pour,0,0", "spill0", "spill(0)", "climb0 0", "po ur 0 0", "fill,flow", "fill/flow", "fillflow", "done done", "what grid 0",
		"\u8349 0", "\u017fpill 0", "sp\u0131ll 0", "f\u0131ll", "\ufb01ll", "\u212aeeps", "\uff46ill", "fi\u200bll", "f\xffill", "fill\xff", "fill\u00a0", "fill\u2003", "\u2003fill", "qu\u00e4d", "gri\u0434 0",
	}
	for _, word := range []string{"fill", "flow", "areas", "keeps", "quad"} {
		lines = append(lines, word[1:], word[:3], word+"s", word+word, strings.ToUpper(word), strings.ToUpper(word[:1])+word[1:], word[:3]+strings.ToUpper(word[3:]))
		for _, around := range []string{" ", "  ", "\t", "\n", "\r\n", "\x00", ",", "/", ";", ".", "-", "\u00a0", "\ufeff", "0", " 0", " 0 0", " x", " fill", " " + word, "\n" + word} {
			lines = append(lines, word+around, around+word)
		}
	}
	for _, word := range []string{"grid", "pour", "spill", "climb"} {
		lines = append(lines, word[1:]+" 0", word[:3]+" 0 0", word+"s 0", word+"0", strings.ToUpper(word), strings.ToUpper(word)+" 0", strings.ToUpper(word[:1])+word[1:]+" 0", word[:3]+strings.ToUpper(word[3:])+" 0 0")
		for _, around := range []string{"\t", "\n", "\r", "\x00", ",", "/", ";", ":", "-", "\u00a0", "\u2003", "\ufeff"} {
			lines = append(lines, word+around, word+around+"0", word+around+" 0", word+around+" 0 0", around+word, around+word+" 0", " "+word+" 0", "  "+word+" 0 0", "0 "+word)
		}
	}
	return lines
}

// checkAlike checks that lines have one answer on the first grid, and on others, which stay.
func checkAlike(t *testing.T, lines []string, want string) {
	t.Helper()
	for _, line := range lines {
		checkAnswers(t, []string{line, "fill"}, []string{want, "0"})
		for _, grid := range []string{"7", "12,0", "1/2/3", "5,5,5/5,1,5/5,4,5", "3,0,7,12,9", "0,1,2/12,11,10"} {
			checkAnswers(t, []string{"grid " + grid, line, "pour 0 0"}, []string{"done", want, grid + " 0"})
		}
	}
}

func TestLinesThatAreNearlyRight(t *testing.T) { checkAlike(t, wrongLines(), "wrong") }

func TestLinesOfNoCommand(t *testing.T) { checkAlike(t, unknownLines(), "what") }

func TestLinesAsLongAsCanBe(t *testing.T) {
	const long = 1000000
	checkAlike(t, []string{
		"grid " + strings.Repeat("9", long), "grid " + strings.Repeat("0", long), "grid " + strings.Repeat("5,", long), "grid " + strings.Repeat("5/", long) + "5", "spill " + strings.Repeat("1", long),
		"spill " + strings.Repeat("0", long), "pour 0 " + strings.Repeat("6", long), "climb 0" + strings.Repeat(" 0", long), "climb" + strings.Repeat(" ", long), "grid " + strings.Repeat("\xff", long),
	}, "wrong")
	checkAlike(t, []string{strings.Repeat("fill", long), strings.Repeat("x", long), strings.Repeat(" ", long), "fill" + strings.Repeat(" ", long), strings.Repeat("\n", long)}, "what")
}

func TestCellsOfGridsOfAllSizes(t *testing.T) {
	for _, size := range gridSizes() {
		h := constantRows(size[0], size[1], 4)
		cells := size[0] * size[1]
		right := 0
		for i := -2; i < 40; i++ {
			lines := []string{
				fmt.Sprintf("spill %d", i), fmt.Sprintf("pour %d 3", i), fmt.Sprintf("climb %d 0", i), fmt.Sprintf("climb 0 %d", i), fmt.Sprintf("climb %d %d", i, i), fmt.Sprintf("climb %d %d", i, cells-1),
			}
			want := slices.Repeat([]string{"wrong"}, len(lines))
			if i >= 0 && i < cells {
				want = []string{"4", inWriting(h) + " 3", "0", "0", "0", "0"}
				right++
			}
			checkAnswers(t, append([]string{"grid " + inWriting(h)}, lines...), append([]string{"done"}, want...))
		}
		if right != cells {
			t.Errorf("%d cells of %d are right", right, cells)
		}
	}
}

func TestAllNumbersOfDrops(t *testing.T) {
	for n := -3; n < 150; n++ {
		line, want := fmt.Sprintf("pour 4 %d", n), "wrong"
		if n >= 0 && n <= impl.MaxDrops {
			want = fmt.Sprintf("12,12,12/12,%d,12/12,12,12 %d", min(n, 12), max(n-12, 0))
		}
		checkAnswers(t, []string{"grid 12,12,12/12,0,12/12,12,12", line}, []string{"done", want})
	}
}

func TestAllHeightsAndSizesOfGrids(t *testing.T) {
	for height := -3; height < 150; height++ {
		grid, want := strconv.Itoa(height), []string{"wrong", "0"}
		if height >= 0 && height <= impl.MaxHeight {
			want = []string{"done", grid}
		}
		checkAnswers(t, []string{"grid " + grid, "fill"}, want)
	}
	for r := 1; r < 9; r++ {
		for c := 1; c < 9; c++ {
			grid, want := inWriting(constantRows(r, c, 11)), []string{"wrong", "0"}
			if r <= impl.MaxSide && c <= impl.MaxSide {
				want = []string{"done", grid}
			}
			checkAnswers(t, []string{"grid " + grid, "fill"}, want)
		}
	}
}

func TestAllShortLines(t *testing.T) {
	h := [][]int{{9, 9, 9}, {9, 0, 9}, {9, 9, 9}, {9, 9, 9}}
	for _, c := range []struct {
		begun, words string
		most         int
		right        []string
	}{
		{"", "grid pour spill climb fill quad 0 / , _", 4, []string{"done", "9", "wrong", "what"}},
		{"grid ", "0 1 3 , / _", 6, []string{"done", "wrong"}},
		{"grid 0", "0 , / 12", 7, []string{"done", "wrong"}},
		{"spill ", "0 1 2 9 _ - + ,", 4, []string{"9", "wrong"}},
		{"pour ", "0 1 6 _ -", 6, []string{"9,9,9/9,0,9/9,9,9/9,9,9 1", "9,9,9/9,0,9/9,9,9/9,9,9 60", "wrong"}},
		{"climb ", "0 1 4 _ +", 6, []string{"0", "9", "wrong"}},
	} {
		var lines []string
		forEachText(strings.Fields(c.words), c.most, func(s string) { lines = append(lines, c.begun+strings.ReplaceAll(s, "_", " ")) })
		kinds := checkByPatterns(t, h, lines)
		for _, answer := range c.right {
			if kinds[answer] == 0 {
				t.Errorf("none of %d lines that begin with %q has the answer %q", len(lines), c.begun, answer)
			}
		}
	}
}

func TestLinesWithOneCharacterChanged(t *testing.T) {
	const characters = "0123456789 ,/-+;.x\t\n\u00e9\u0661"
	for _, h := range [][][]int{{{7}}, {{5, 2, 6, 1, 12}}, {{5, 5, 5}, {5, 1, 5}, {5, 4, 5}}, {{1, 2}, {3, 4}, {10, 11}}, constantRows(5, 5, 10)} {
		for _, line := range linesOf(h) {
			kinds := checkByPatterns(t, h, withCharactersChanged(line, characters))
			if kinds["what"] == 0 {
				t.Errorf("%q is never changed to no command", line)
			}
		}
	}
}

func TestDesksKeepTheirLinesAndNoState(t *testing.T) {
	others := []string{"grid 5,5,5/5,1,5/5,4,5", "pour 4 3"}
	for _, lines := range mixedDesks(400) {
		before := slices.Clone(lines)
		all := impl.RunDesk(lines)
		impl.RunDesk(others)
		for first := range len(lines) {
			impl.RunDesk(lines[:first])
		}
		if again := impl.RunDesk(lines); again != all || !slices.Equal(lines, before) {
			t.Fatalf("RunDesk(%q) = %q, and then, of %q, %q", before, all, lines, again)
		}
	}
	if impl.RunDesk([]string{"fill"}) != "0\n" {
		t.Error("a desk begins with the grid of another one")
	}
}
