package tests

import (
	"math"
	"math/big"
	"math/rand"
	"reflect"
	"slices"
	"testing"

	"loop.example/hideandseek/impl"
)

// learned is which row and which column was chosen at each step, the first one first, and what is then between the most that a row has got in all and the least that a column has cost in all.
type learned struct{ rows, columns, between []int }

// learnedByHand carries on what each row has got and each column has cost, and looks for the first best ones among these.
func learnedByHand(g [][]int, steps int) learned {
	got, cost := make([]int, len(g)), make([]int, len(g[0]))
	var l learned
	for range steps {
		row, column := slices.Index(got, slices.Max(got)), slices.Index(cost, slices.Min(cost))
		for r := range got {
			got[r] += g[r][column]
		}
		for c := range cost {
			cost[c] += g[row][c]
		}
		l.rows, l.columns = append(l.rows, row), append(l.columns, column)
		l.between = append(l.between, slices.Max(got)-slices.Min(cost))
	}
	return l
}

// counts are how often each row and each column was chosen in the first steps.
func (l learned) counts(g [][]int, steps int) impl.Counts {
	c := impl.Counts{Rows: make([]int, len(g)), Columns: make([]int, len(g[0]))}
	for step := range steps {
		c.Rows[l.rows[step]]++
		c.Columns[l.columns[step]]++
	}
	return c
}

// gap is what is between, for each of so many steps.
func (l learned) gap(steps int) *big.Rat {
	return big.NewRat(int64(l.between[steps-1]), int64(steps))
}

// least is the least gap of the first steps, the first step that has it, and how many of them do.
func (l learned) least(steps int) (*big.Rat, int, int) {
	first, many := 1, 0
	for step := 1; step <= steps; step++ {
		switch l.gap(step).Cmp(l.gap(first)) {
		case -1:
			first, many = step, 1
		case 0:
			many++
		}
	}
	return l.gap(first), first, many
}

// saddledFirst are games of all sizes whose first number is a saddle, some of them with other numbers that are as good.
func saddledFirst() [][][]int {
	draw := rand.New(rand.NewSource(26))
	var list [][][]int
	for rows := 1; rows <= 16; rows++ {
		for columns := 1; columns <= 16; columns++ {
			for _, wide := range []int{1, 9} {
				saddle := draw.Intn(2*wide+1) - wide
				list = append(list, gameOf(rows, columns, func(r int, c int) int {
					switch {
					case r == 0 && c == 0:
						return saddle
					case r == 0:
						return saddle + draw.Intn(wide-saddle+1)
					case c == 0:
						return saddle - draw.Intn(saddle+wide+1)
					}
					return draw.Intn(2*wide+1) - wide
				}))
			}
		}
	}
	return list
}

// extremeGames are games of up to 16 rows and columns with no other numbers than -9 and 9: drawn ones, and those with one of them on the diagonal and the other one around it.
func extremeGames() [][][]int {
	draw := rand.New(rand.NewSource(27))
	var list [][][]int
	for _, size := range [][2]int{{1, 16}, {16, 1}, {2, 2}, {3, 3}, {4, 4}, {4, 16}, {16, 4}, {15, 16}, {16, 16}} {
		for _, n := range []int{-9, 9} {
			list = append(list, gameOf(size[0], size[1], func(r int, c int) int {
				if r == c {
					return n
				}
				return -n
			}))
			list = append(list, alike(size[0], size[1], n))
		}
		for range 10 {
			list = append(list, gameOf(size[0], size[1], func(int, int) int { return 18*draw.Intn(2) - 9 }))
		}
	}
	return list
}

// fewLearned are games that are learned in every number of steps.
func fewLearned() [][][]int {
	draw := rand.New(rand.NewSource(28))
	list := [][][]int{
		{{5}}, {{2, 1, 1}}, {{1}, {2}, {2}}, {{1, -1}, {-1, 1}}, {{3, -1}, {-2, 4}}, {{3, 1, 4}, {2, 2, 2}},
		{{-8, -9}, {-9, 9}}, {{-4, 3}, {-3, -9}}, {{-9, -1}, {-7, -9}}, {{0, -1}, {1, 4}}, alike(16, 16, 9),
	}
	for _, from := range [][][][]int{drawnGames(), saddleGames(), drawnSolved(), fairSolved(), repeatedSolved(), saddledFirst(), extremeGames(), firmGames(), firmSaddles()} {
		for range 12 {
			list = append(list, from[draw.Intn(len(from))])
		}
	}
	return list
}

// learnedGames are all games with which the promises of this chapter are tested, the small ones but for their great number.
func learnedGames() [][][]int {
	return slices.Concat(fewLearned(), drawnGames(), saddleGames(), alikeGames(), drawnSolved(), fairSolved(), repeatedSolved(), saddledSolved(), saddledFirst(), extremeGames(), firmGames(), firmSaddles())
}

// someSteps are numbers of steps for many games.
var someSteps = []int{1, 2, 3, 4, 7, 23, 60}

// noSteps are numbers of steps in which nothing is learned, some of which are 1 to 60 in their low bits.
func noSteps() []int {
	list := append(farFew(), 256+60, 65536+60, -256+60, -65536+60, math.MinInt32+60, math.MinInt+60, math.MaxInt-60)
	for steps := -70; steps <= 140; steps++ {
		if steps < 1 || steps > 60 {
			list = append(list, steps)
		}
	}
	return list
}

// unlearned is a game, or none, with steps, in which nothing is learned.
type unlearned struct {
	g     [][]int
	steps int
}

// nothingLearned are games with no steps, no games with steps, and no games with no steps.
func nothingLearned() []unlearned {
	var list []unlearned
	for _, g := range [][][]int{{{0}}, {{5, 5}}, {{1}, {2}}, {{1, -1}, {-1, 1}}, {{3, 1, 4}, {2, 2, 2}}, alike(16, 16, 9), nil, {{}}, {{10}}, alike(17, 17, 0)} {
		for _, steps := range noSteps() {
			list = append(list, unlearned{g, steps})
		}
	}
	for _, g := range append(noGames(), noFair()...) {
		for _, steps := range []int{1, 2, 3, 59, 60, 0, -1, 61, math.MaxInt, math.MinInt} {
			list = append(list, unlearned{g, steps})
		}
	}
	return list
}

// between reports whether what a game is worth is at least what is safe, and at most what is risked.
func between(safe impl.Frac, worth impl.Frac, risk impl.Frac) bool {
	return ratOf(safe).Cmp(ratOf(worth)) <= 0 && ratOf(worth).Cmp(ratOf(risk)) <= 0
}

// worthByHand is what a game is worth, if that is known: by its saddle, or by its solution, or by that of the game made smaller.
func worthByHand(g [][]int) (impl.Frac, bool) {
	if list := saddlesByHand(g); len(list) > 0 {
		return impl.Frac{Up: g[list[0]/len(g[0])][list[0]%len(g[0])], Down: 1}, true
	}
	return impl.WorthOf(impl.SmallerOf(g))
}

func TestMaxSteps(t *testing.T) {
	if impl.MaxSteps != 60 {
		t.Fatal(impl.MaxSteps)
	}
}

func testLearned(t *testing.T, g [][]int, steps int, want impl.Counts) {
	t.Helper()
	c, ok := impl.LearnedOf(g, steps)
	if !ok || !slices.Equal(c.Rows, want.Rows) || !slices.Equal(c.Columns, want.Columns) {
		t.Fatalf("LearnedOf(%v, %d) = %v, %v, not %v", g, steps, c, ok, want)
	}
}

func TestPromise54OneStep(t *testing.T) {
	for _, g := range append(smallGames(), learnedGames()...) {
		testLearned(t, g, 1, impl.Counts{Rows: oneWeighs(len(g), 0, 1), Columns: oneWeighs(len(g[0]), 0, 1)})
	}
}

// At the second step the row is the best one against the first column, and the column against the first row.
func TestPromise54TwoSteps(t *testing.T) {
	for _, g := range append(smallGames(), learnedGames()...) {
		want := impl.Counts{Rows: oneWeighs(len(g), 0, 1), Columns: oneWeighs(len(g[0]), 0, 1)}
		first := columnByHand(g, 0)
		want.Rows[slices.Index(first, slices.Max(first))]++
		want.Columns[slices.Index(g[0], slices.Min(g[0]))]++
		testLearned(t, g, 2, want)
	}
}

func TestPromise54StepsByHand(t *testing.T) {
	for _, g := range learnedGames() {
		l := learnedByHand(g, 60)
		for _, steps := range someSteps {
			testLearned(t, g, steps, l.counts(g, steps))
		}
	}
	for at, g := range smallGames() {
		l := learnedByHand(g, 60)
		testLearned(t, g, 3+at%57, l.counts(g, 3+at%57))
		testLearned(t, g, 60, l.counts(g, 60))
	}
}

func TestPromise54AllSteps(t *testing.T) {
	for _, g := range fewLearned() {
		l := learnedByHand(g, 60)
		for steps := 1; steps <= 60; steps++ {
			testLearned(t, g, steps, l.counts(g, steps))
		}
	}
}

func TestPromise54EachStepIsTheFirstBestOne(t *testing.T) {
	several, others := 0, 0
	for _, g := range fewLearned() {
		before, _ := impl.LearnedOf(g, 1)
		for steps := 2; steps <= 60; steps++ {
			rows, columns := impl.BestRows(g, before.Columns), impl.BestRows(turnedByHand(g), before.Rows)
			want := impl.Counts{Rows: slices.Clone(before.Rows), Columns: slices.Clone(before.Columns)}
			want.Rows[rows[0]]++
			want.Columns[columns[0]]++
			testLearned(t, g, steps, want)
			before, _ = impl.LearnedOf(g, steps)
			several += oneOrNone(len(rows) > 1 && rows[0] > 0)
			others += oneOrNone(len(columns) > 1 && columns[0] > 0)
		}
	}
	if several < 50 || others < 50 {
		t.Fatalf("only %d times several rows but the first one are as good, and %d times several columns: too few to test them", several, others)
	}
}

func TestPromise54LearnedIsMixtures(t *testing.T) {
	known := 0
	for _, g := range learnedGames() {
		worth, told := worthByHand(g)
		for _, steps := range someSteps {
			c, ok := impl.LearnedOf(g, steps)
			if !ok || !impl.MixOk(c.Rows, len(g)) || !impl.MixOk(c.Columns, len(g[0])) || total(c.Rows) != steps || total(c.Columns) != steps {
				t.Fatalf("LearnedOf(%v, %d) = %v, %v", g, steps, c, ok)
			}
			safe, _ := impl.SafeOf(g, c.Rows)
			risk, _ := impl.RiskOf(g, c.Columns)
			if told && !between(safe, worth, risk) {
				t.Fatalf("LearnedOf(%v, %d) = %v: %v is safe and %v risked, but the game is worth %v", g, steps, c, safe, risk, worth)
			}
			if saddleByHand(g, 0, 0) && !impl.SettledOk(g, c.Rows, c.Columns) {
				t.Fatalf("LearnedOf(%v, %d) = %v is not settled", g, steps, c)
			}
		}
		known += oneOrNone(told && len(g)+len(g[0]) > 8)
	}
	if known < 300 {
		t.Fatalf("only of %d greater games it is known what they are worth: too few to test them", known)
	}
}

func TestPromise54SmallGames(t *testing.T) {
	for _, g := range smallGames() {
		worth, ok := impl.WorthOf(g)
		c, told := impl.LearnedOf(g, 60)
		if !ok || !told || !impl.MixOk(c.Rows, len(g)) || !impl.MixOk(c.Columns, len(g[0])) || total(c.Rows) != 60 || total(c.Columns) != 60 {
			t.Fatalf("LearnedOf(%v, 60) = %v, %v", g, c, told)
		}
		safe, _ := impl.SafeOf(g, c.Rows)
		risk, _ := impl.RiskOf(g, c.Columns)
		if !between(safe, worth, risk) {
			t.Fatalf("LearnedOf(%v, 60) = %v: %v is safe and %v risked, but the game is worth %v", g, c, safe, risk, worth)
		}
		if slices.Contains(impl.SaddlesOf(g), 0) && !impl.SettledOk(g, c.Rows, c.Columns) {
			t.Fatalf("LearnedOf(%v, 60) = %v is not settled", g, c)
		}
	}
}

// A saddle at the first choices is never left, also if there are others.
func TestPromise54TheFirstNumberIsASaddle(t *testing.T) {
	for at, g := range saddledFirst() {
		for steps := 1 + at%3; steps <= 60; steps += 4 {
			want := impl.Counts{Rows: oneWeighs(len(g), 0, steps), Columns: oneWeighs(len(g[0]), 0, steps)}
			testLearned(t, g, steps, want)
			if list := impl.SaddlesOf(g); list[0] != 0 || !impl.SettledOk(g, want.Rows, want.Columns) {
				t.Fatalf("%v has the saddles %v, and %v is not settled", g, list, want)
			}
		}
	}
}

func TestPromise54OneNumber(t *testing.T) {
	for n := -9; n <= 9; n++ {
		for steps := 1; steps <= 60; steps++ {
			testLearned(t, [][]int{{n}}, steps, impl.Counts{Rows: []int{steps}, Columns: []int{steps}})
		}
	}
}

// Against one row the first column with the least number is chosen at each step but the first one, and so from the other side.
func TestPromise54OneRowOrOneColumn(t *testing.T) {
	draw := rand.New(rand.NewSource(29))
	for many := 1; many <= 16; many++ {
		for _, wide := range []int{1, 3, 9} {
			row := weightsOf(many, func(int) int { return draw.Intn(2*wide+1) - wide })
			at := slices.Index(row, slices.Min(row))
			for _, steps := range someSteps {
				chosen := oneWeighs(many, at, steps-1)
				chosen[0]++
				testLearned(t, [][]int{row}, steps, impl.Counts{Rows: []int{steps}, Columns: chosen})
				testLearned(t, turnedByHand([][]int{row}), steps, impl.Counts{Rows: chosen, Columns: []int{steps}})
			}
		}
	}
}

func TestPromise54LinesThatAreAlike(t *testing.T) {
	repeated := 0
	for _, g := range slices.Concat(repeatedSolved(), alikeGames(), drawnGames()) {
		c, _ := impl.LearnedOf(g, 60)
		turned := turnedByHand(g)
		for at := range g {
			if slices.ContainsFunc(g[:at], func(row []int) bool { return slices.Equal(row, g[at]) }) {
				repeated++
				if c.Rows[at] != 0 {
					t.Fatalf("LearnedOf(%v, 60) = %v, but the row %d is as an earlier one", g, c, at)
				}
			}
		}
		for at := range turned {
			if slices.ContainsFunc(turned[:at], func(column []int) bool { return slices.Equal(column, turned[at]) }) {
				repeated++
				if c.Columns[at] != 0 {
					t.Fatalf("LearnedOf(%v, 60) = %v, but the column %d is as an earlier one", g, c, at)
				}
			}
		}
	}
	if repeated < 1000 {
		t.Fatalf("only %d lines are as an earlier one: too few to test them", repeated)
	}
}

// Both look at what was chosen till then, not one of them at what the other one chooses at the same step: so from the other side it is the other way round.
func TestPromise54FromTheOtherSide(t *testing.T) {
	for _, g := range learnedGames() {
		for _, steps := range []int{2, 3, 13, 60} {
			c, _ := impl.LearnedOf(g, steps)
			testLearned(t, turnedByHand(g), steps, impl.Counts{Rows: c.Columns, Columns: c.Rows})
		}
	}
	for _, g := range drawnFair() {
		if c, ok := impl.LearnedOf(g, 60); !ok || !slices.Equal(c.Rows, c.Columns) {
			t.Fatalf("LearnedOf(%v, 60) = %v, %v, but the game is fair", g, c, ok)
		}
	}
}

// stepped is how often each row and each column was chosen after a step, and the gap.
type stepped struct {
	rows, columns []int
	gap           impl.Frac
}

// learnedExamples are games with what is learned after each step, worked out on paper.
var learnedExamples = []struct {
	g     [][]int
	steps []stepped
}{
	{[][]int{{1, -1}, {-1, 1}}, []stepped{
		{[]int{1, 0}, []int{1, 0}, impl.Frac{Up: 2, Down: 1}},
		{[]int{2, 0}, []int{1, 1}, impl.Frac{Up: 1, Down: 1}},
		{[]int{3, 0}, []int{1, 2}, impl.Frac{Up: 4, Down: 3}},
		{[]int{3, 1}, []int{1, 3}, impl.Frac{Up: 1, Down: 1}},
		{[]int{3, 2}, []int{1, 4}, impl.Frac{Up: 4, Down: 5}},
		{[]int{3, 3}, []int{1, 5}, impl.Frac{Up: 2, Down: 3}},
		{[]int{3, 4}, []int{2, 5}, impl.Frac{Up: 4, Down: 7}},
		{[]int{3, 5}, []int{3, 5}, impl.Frac{Up: 1, Down: 2}},
		{[]int{3, 6}, []int{4, 5}, impl.Frac{Up: 4, Down: 9}},
		{[]int{3, 7}, []int{5, 5}, impl.Frac{Up: 2, Down: 5}},
		{[]int{4, 7}, []int{6, 5}, impl.Frac{Up: 4, Down: 11}},
	}},
	{[][]int{{3, -1}, {-2, 4}}, []stepped{
		{[]int{1, 0}, []int{1, 0}, impl.Frac{Up: 4, Down: 1}},
		{[]int{2, 0}, []int{1, 1}, impl.Frac{Up: 2, Down: 1}},
		{[]int{3, 0}, []int{1, 2}, impl.Frac{Up: 3, Down: 1}},
		{[]int{3, 1}, []int{1, 3}, impl.Frac{Up: 9, Down: 4}},
		{[]int{3, 2}, []int{1, 4}, impl.Frac{Up: 9, Down: 5}},
		{[]int{3, 3}, []int{2, 4}, impl.Frac{Up: 3, Down: 2}},
		{[]int{3, 4}, []int{3, 4}, impl.Frac{Up: 9, Down: 7}},
		{[]int{3, 5}, []int{4, 4}, impl.Frac{Up: 9, Down: 8}},
		{[]int{4, 5}, []int{5, 4}, impl.Frac{Up: 1, Down: 1}},
		{[]int{5, 5}, []int{6, 4}, impl.Frac{Up: 9, Down: 10}},
	}},
	// The saddle is not the first number: it is found, but what was chosen before is not forgotten.
	{[][]int{{3, 1, 4}, {2, 2, 2}}, []stepped{
		{[]int{1, 0}, []int{1, 0, 0}, impl.Frac{Up: 2, Down: 1}},
		{[]int{2, 0}, []int{1, 1, 0}, impl.Frac{Up: 1, Down: 1}},
		{[]int{3, 0}, []int{1, 2, 0}, impl.Frac{Up: 1, Down: 1}},
		{[]int{3, 1}, []int{1, 3, 0}, impl.Frac{Up: 3, Down: 4}},
		{[]int{3, 2}, []int{1, 4, 0}, impl.Frac{Up: 3, Down: 5}},
		{[]int{3, 3}, []int{1, 5, 0}, impl.Frac{Up: 1, Down: 2}},
	}},
	{[][]int{{0, 1, -1}, {-1, 0, 1}, {1, -1, 0}}, []stepped{
		{[]int{1, 0, 0}, []int{1, 0, 0}, impl.Frac{Up: 2, Down: 1}},
		{[]int{1, 0, 1}, []int{1, 0, 1}, impl.Frac{Up: 1, Down: 1}},
		{[]int{1, 0, 2}, []int{1, 0, 2}, impl.Frac{Up: 2, Down: 3}},
		{[]int{1, 1, 2}, []int{1, 1, 2}, impl.Frac{Up: 1, Down: 2}},
	}},
	{[][]int{{-9, -1}, {-7, -9}}, []stepped{
		{[]int{1, 0}, []int{1, 0}, impl.Frac{Up: 2, Down: 1}},
		{[]int{1, 1}, []int{2, 0}, impl.Frac{Up: 1, Down: 1}},
		{[]int{1, 2}, []int{3, 0}, impl.Frac{Up: 2, Down: 3}},
		{[]int{1, 3}, []int{4, 0}, impl.Frac{Up: 1, Down: 2}},
		{[]int{1, 4}, []int{5, 0}, impl.Frac{Up: 2, Down: 5}},
		{[]int{1, 5}, []int{6, 0}, impl.Frac{Up: 2, Down: 3}},
		{[]int{1, 6}, []int{6, 1}, impl.Frac{Up: 4, Down: 7}},
		{[]int{1, 7}, []int{6, 2}, impl.Frac{Up: 1, Down: 1}},
	}},
	{[][]int{{-8, -9}, {-9, 9}}, []stepped{
		{[]int{1, 0}, []int{1, 0}, impl.Frac{Up: 1, Down: 1}},
		{[]int{2, 0}, []int{1, 1}, impl.Frac{Up: 9, Down: 1}},
		{[]int{2, 1}, []int{1, 2}, impl.Frac{Up: 34, Down: 3}},
	}},
	// The second and the third row, and the second and the third column, are as good: the first ones of them are chosen.
	{[][]int{{5, 1, 1}, {7, 4, 6}, {7, 6, 4}}, []stepped{
		{[]int{1, 0, 0}, []int{1, 0, 0}, impl.Frac{Up: 6, Down: 1}},
		{[]int{1, 1, 0}, []int{1, 1, 0}, impl.Frac{Up: 4, Down: 1}},
		{[]int{1, 1, 1}, []int{1, 2, 0}, impl.Frac{Up: 8, Down: 3}},
		{[]int{1, 1, 2}, []int{1, 3, 0}, impl.Frac{Up: 5, Down: 2}},
	}},
	{[][]int{{5, 1, 1}}, []stepped{
		{[]int{1}, []int{1, 0, 0}, impl.Frac{Up: 4, Down: 1}},
		{[]int{2}, []int{1, 1, 0}, impl.Frac{Up: 2, Down: 1}},
		{[]int{3}, []int{1, 2, 0}, impl.Frac{Up: 4, Down: 3}},
	}},
	{[][]int{{-2}, {7}, {7}}, []stepped{
		{[]int{1, 0, 0}, []int{1}, impl.Frac{Up: 9, Down: 1}},
		{[]int{1, 1, 0}, []int{2}, impl.Frac{Up: 9, Down: 2}},
		{[]int{1, 2, 0}, []int{3}, impl.Frac{Up: 3, Down: 1}},
	}},
}

func TestPromises54And55Examples(t *testing.T) {
	for _, e := range learnedExamples {
		for at, want := range e.steps {
			testLearned(t, e.g, at+1, impl.Counts{Rows: want.rows, Columns: want.columns})
			if gap, ok := impl.GapOf(e.g, at+1); !ok || gap != want.gap {
				t.Errorf("GapOf(%v, %d) = %v, %v, not %v", e.g, at+1, gap, ok, want.gap)
			}
		}
	}
	// After two steps the columns 0 and 1 are as good, so that the column 0 is chosen once more.
	side := gameOf(16, 16, func(r int, c int) int { return 9 - 18*oneOrNone(r == c) })
	for steps, want := range map[int]stepped{
		1: {[]int{1, 0}, []int{1, 0}, impl.Frac{Up: 18, Down: 1}},
		2: {[]int{1, 1}, []int{2, 0}, impl.Frac{Up: 9, Down: 1}},
		3: {[]int{1, 2}, []int{3, 0}, impl.Frac{Up: 12, Down: 1}},
		4: {[]int{1, 3}, []int{3, 1}, impl.Frac{Up: 27, Down: 2}},
	} {
		rest := make([]int, 14)
		testLearned(t, side, steps, impl.Counts{Rows: slices.Concat(want.rows, rest), Columns: slices.Concat(want.columns, rest)})
		if gap, ok := impl.GapOf(side, steps); !ok || gap != want.gap {
			t.Errorf("GapOf(%v, %d) = %v, %v, not %v", side, steps, gap, ok, want.gap)
		}
	}
}

func TestPromise54NothingLearned(t *testing.T) {
	for _, u := range nothingLearned() {
		if c, ok := impl.LearnedOf(u.g, u.steps); ok || len(c.Rows) > 0 || len(c.Columns) > 0 {
			t.Fatalf("LearnedOf(%v, %d) = %v, %v", u.g, u.steps, c, ok)
		}
	}
}

// testGap holds the gap against what is risked less what is safe for what was chosen, in lowest terms, and tells whether it is 0.
func testGap(t *testing.T, g [][]int, steps int) bool {
	t.Helper()
	c, _ := impl.LearnedOf(g, steps)
	risk, _ := riskByHand(g, c.Columns)
	want, _ := fracOfRat(new(big.Rat).Sub(risk, safeByHand(g, c.Rows)))
	gap, ok := impl.GapOf(g, steps)
	if !ok || gap != want || !impl.FracOk(gap) || gap.Up < 0 {
		t.Fatalf("GapOf(%v, %d) = %v, %v, not %v", g, steps, gap, ok, want)
	}
	if settled := impl.SettledOk(g, c.Rows, c.Columns); settled != (gap == nothing) {
		t.Fatalf("GapOf(%v, %d) = %v, but that %v is settled is %v", g, steps, gap, c, settled)
	}
	risked, _ := impl.RiskOf(g, c.Columns)
	safe, _ := impl.SafeOf(g, c.Rows)
	if sum, ok := impl.PlusOf(safe, gap); !ok || sum != risked {
		t.Fatalf("GapOf(%v, %d) = %v, but %v is safe and %v risked", g, steps, gap, safe, risked)
	}
	return gap == nothing
}

func TestPromise55GapsAreNotLessThanNothing(t *testing.T) {
	closed, open := 0, 0
	for at, g := range learnedGames() {
		for _, steps := range []int{1, 2, 3 + at%57, 60} {
			if testGap(t, g, steps) {
				closed++
			} else {
				open++
			}
		}
	}
	for at, g := range smallGames() {
		testGap(t, g, 1+at%60)
	}
	if closed < 1000 || open < 1000 {
		t.Fatalf("only %d gaps are 0, and %d are not: too few to test them", closed, open)
	}
}

func TestPromise55AllSteps(t *testing.T) {
	for _, g := range fewLearned() {
		l := learnedByHand(g, 60)
		for steps := 1; steps <= 60; steps++ {
			want, _ := fracOfRat(l.gap(steps))
			if gap, ok := impl.GapOf(g, steps); !ok || gap != want {
				t.Fatalf("GapOf(%v, %d) = %v, %v, not %v", g, steps, gap, ok, want)
			}
		}
	}
}

// Times the steps a gap never gets less, since what a step adds to the row and the column that are chosen is the same number. So it is 0 exactly if it is so at the first step, for a saddle.
func TestPromise55GapsOfSaddles(t *testing.T) {
	for _, g := range learnedGames() {
		before := new(big.Rat)
		for _, steps := range someSteps {
			gap, ok := impl.GapOf(g, steps)
			if !ok || saddleByHand(g, 0, 0) != (gap == nothing) {
				t.Fatalf("GapOf(%v, %d) = %v, %v", g, steps, gap, ok)
			}
			all := new(big.Rat).Mul(ratOf(gap), big.NewRat(int64(steps), 1))
			if all.Cmp(before) < 0 {
				t.Fatalf("GapOf(%v, %d) = %v is %v in all, less than before: %v", g, steps, gap, all, before)
			}
			before = all
		}
	}
	for _, g := range saddledFirst() {
		for _, steps := range []int{1, 2, 3, 59, 60} {
			if gap, ok := impl.GapOf(g, steps); !ok || gap != nothing {
				t.Fatalf("GapOf(%v, %d) = %v, %v", g, steps, gap, ok)
			}
		}
	}
}

func TestPromise55NothingLearned(t *testing.T) {
	for _, u := range nothingLearned() {
		if gap, ok := impl.GapOf(u.g, u.steps); ok || gap != (impl.Frac{}) {
			t.Fatalf("GapOf(%v, %d) = %v, %v", u.g, u.steps, gap, ok)
		}
	}
}

func testLeast(t *testing.T, g [][]int, steps int, want impl.Frac, first int) {
	t.Helper()
	gap, at, ok := impl.LeastGap(g, steps)
	if !ok || gap != want || at != first {
		t.Fatalf("LeastGap(%v, %d) = %v, %d, %v, not %v, %d", g, steps, gap, at, ok, want, first)
	}
}

func TestPromise56LeastGapsByHand(t *testing.T) {
	first, last, inside, twice := 0, 0, 0, 0
	for place, g := range append(smallGames(), learnedGames()...) {
		l := learnedByHand(g, 60)
		for _, steps := range []int{1, 2, 4, 3 + place%57, 60} {
			least, at, many := l.least(steps)
			want, _ := fracOfRat(least)
			testLeast(t, g, steps, want, at)
			if least.Sign() > 0 && steps > 2 {
				first += oneOrNone(at == 1)
				last += oneOrNone(at == steps)
				inside += oneOrNone(at > 1 && at < steps)
				twice += oneOrNone(many > 1)
			}
		}
	}
	if first < 30 || last < 1000 || inside < 1000 || twice < 100 {
		t.Fatalf("least gaps at the first step are %d, at the last one %d, between %d, and %d come twice: too few to test them", first, last, inside, twice)
	}
}

func TestPromise56LeastGapsAreGaps(t *testing.T) {
	for _, g := range fewLearned() {
		var gaps []impl.Frac
		for steps := 1; steps <= 60; steps++ {
			gap, _ := impl.GapOf(g, steps)
			gaps = append(gaps, gap)
			least, at, ok := impl.LeastGap(g, steps)
			if !ok || at < 1 || at > steps || least != gaps[at-1] {
				t.Fatalf("LeastGap(%v, %d) = %v, %d, %v, of the gaps %v", g, steps, least, at, ok, gaps)
			}
			for i, other := range gaps {
				if impl.LessOk(other, least) || i < at-1 && other == least {
					t.Fatalf("LeastGap(%v, %d) = %v, %d, but the gap after %d steps is %v", g, steps, least, at, i+1, other)
				}
			}
			if more, later, ok := impl.LeastGap(g, steps+1); ok != (steps < 60) || ok && (impl.LessOk(least, more) || more == least && later != at || more != least && later != steps+1) {
				t.Fatalf("LeastGap(%v, %d) = %v, %d, but with one step more it is %v, %d, %v", g, steps, least, at, more, later, ok)
			}
		}
	}
}

func TestPromise56OneStep(t *testing.T) {
	for _, g := range append(smallGames(), learnedGames()...) {
		testLeast(t, g, 1, impl.Frac{Up: slices.Max(columnByHand(g, 0)) - slices.Min(g[0]), Down: 1}, 1)
	}
}

func TestPromise56Saddles(t *testing.T) {
	for _, g := range saddledFirst() {
		for _, steps := range someSteps {
			testLeast(t, g, steps, nothing, 1)
		}
	}
}

func TestPromise56Examples(t *testing.T) {
	coins, guess := [][]int{{1, -1}, {-1, 1}}, [][]int{{3, -1}, {-2, 4}}
	for _, c := range []struct {
		g     [][]int
		steps int
		want  impl.Frac
		at    int
	}{
		{[][]int{{5}}, 1, nothing, 1},
		{[][]int{{5}}, 60, nothing, 1},
		{alike(16, 16, -9), 60, nothing, 1},
		{coins, 1, impl.Frac{Up: 2, Down: 1}, 1},
		{coins, 2, impl.Frac{Up: 1, Down: 1}, 2},
		{coins, 3, impl.Frac{Up: 1, Down: 1}, 2},
		// After 2 steps and after 4 it is 1.
		{coins, 4, impl.Frac{Up: 1, Down: 1}, 2},
		{coins, 5, impl.Frac{Up: 4, Down: 5}, 5},
		{coins, 11, impl.Frac{Up: 4, Down: 11}, 11},
		{guess, 1, impl.Frac{Up: 4, Down: 1}, 1},
		{guess, 4, impl.Frac{Up: 2, Down: 1}, 2},
		{guess, 5, impl.Frac{Up: 9, Down: 5}, 5},
		{guess, 10, impl.Frac{Up: 9, Down: 10}, 10},
		{[][]int{{3, 1, 4}, {2, 2, 2}}, 1, impl.Frac{Up: 2, Down: 1}, 1},
		{[][]int{{3, 1, 4}, {2, 2, 2}}, 3, impl.Frac{Up: 1, Down: 1}, 2},
		{[][]int{{3, 1, 4}, {2, 2, 2}}, 6, impl.Frac{Up: 1, Down: 2}, 6},
		// What is between stays 3 from the third step on.
		{[][]int{{3, 1, 4}, {2, 2, 2}}, 60, impl.Frac{Up: 1, Down: 20}, 60},
		{[][]int{{-8, -9}, {-9, 9}}, 3, impl.Frac{Up: 1, Down: 1}, 1},
		{[][]int{{-4, 3}, {-3, -9}}, 3, impl.Frac{Up: 1, Down: 2}, 2},
		{[][]int{{-9, -1}, {-7, -9}}, 5, impl.Frac{Up: 2, Down: 5}, 5},
		{[][]int{{-9, -1}, {-7, -9}}, 8, impl.Frac{Up: 2, Down: 5}, 5},
		// After 1 step and after 2 it is 2, and then 4/3.
		{[][]int{{0, -1}, {1, 4}}, 1, impl.Frac{Up: 2, Down: 1}, 1},
		{[][]int{{0, -1}, {1, 4}}, 2, impl.Frac{Up: 2, Down: 1}, 1},
		{[][]int{{0, -1}, {1, 4}}, 3, impl.Frac{Up: 4, Down: 3}, 3},
		{[][]int{{5, 1, 1}}, 60, impl.Frac{Up: 1, Down: 15}, 60},
		{[][]int{{9, -9}}, 60, impl.Frac{Up: 3, Down: 10}, 60},
	} {
		testLeast(t, c.g, c.steps, c.want, c.at)
	}
}

func TestPromise56NothingLearned(t *testing.T) {
	for _, u := range nothingLearned() {
		if gap, at, ok := impl.LeastGap(u.g, u.steps); ok || gap != (impl.Frac{}) || at != -1 {
			t.Fatalf("LeastGap(%v, %d) = %v, %d, %v", u.g, u.steps, gap, at, ok)
		}
	}
}

func TestLearnedGamesAreNotWrittenTo(t *testing.T) {
	for at, g := range slices.Concat(learnedGames(), noGames(), noFair()) {
		given, whole := roomy(g)
		before := wholeOf(whole)
		for _, steps := range []int{0, 1, 2, 3 + at%57, 61} {
			impl.LearnedOf(given, steps)
			impl.GapOf(given, steps)
			impl.LeastGap(given, steps)
		}
		if after := wholeOf(whole); !reflect.DeepEqual(after, before) {
			t.Fatalf("%v is %v behind the calls", before, after)
		}
	}
}

func TestLearnedSharesNoMemory(t *testing.T) {
	for _, g := range append(fewLearned(), saddledFirst()...) {
		for _, steps := range someSteps {
			given, whole := roomy(g)
			first, _ := impl.LearnedOf(given, steps)
			second, _ := impl.LearnedOf(given, steps)
			if !apart(append(whole, first.Rows, first.Columns, second.Rows, second.Columns)...) {
				t.Fatalf("LearnedOf(%v, %d) shares memory", g, steps)
			}
		}
	}
}

// TestLearnedIsAsBefore overwrites what was returned and the game, and asks again.
func TestLearnedIsAsBefore(t *testing.T) {
	for _, g := range fewLearned() {
		l := learnedByHand(g, 60)
		for _, steps := range someSteps {
			given, whole := roomy(g)
			c, _ := impl.LearnedOf(given, steps)
			spoil(whole)
			if want := l.counts(g, steps); !reflect.DeepEqual(c, want) {
				t.Fatalf("LearnedOf(%v, %d) changes with the game to %v", g, steps, c)
			}
			spoil([][]int{c.Rows, c.Columns})
			testLearned(t, g, steps, l.counts(g, steps))
		}
	}
}
