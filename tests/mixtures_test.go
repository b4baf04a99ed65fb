package tests

import (
	"math"
	"math/big"
	"math/rand"
	"reflect"
	"slices"
	"testing"

	"loop.example/hideandseek/impl"
)

// weightsOf returns a new mixture of so many weights, with one told for each place.
func weightsOf(many int, weight func(at int) int) []int {
	x := make([]int, many)
	for i := range x {
		x[i] = weight(i)
	}
	return x
}

// allWeigh returns so many weights, all the same.
func allWeigh(many int, weight int) []int {
	return weightsOf(many, func(int) int { return weight })
}

// oneWeighs returns so many weights, all but one of them 0.
func oneWeighs(many int, at int, weight int) []int {
	x := make([]int, many)
	x[at] = weight
	return x
}

// drawnMixture returns so many weights up to a greatest one, with 0 among them.
func drawnMixture(draw *rand.Rand, many int, greatest int) []int {
	x := weightsOf(many, func(int) int { return draw.Intn(2) * draw.Intn(greatest+1) })
	x[draw.Intn(many)] = 1 + draw.Intn(greatest)
	return x
}

// mixtures are mixtures of so many weights: one place alone, all alike, 0 among others, small weights and the greatest ones.
func mixtures(draw *rand.Rand, many int) [][]int {
	return [][]int{
		oneWeighs(many, draw.Intn(many), 1),
		oneWeighs(many, draw.Intn(many), 100000),
		allWeigh(many, 1),
		allWeigh(many, 100000),
		weightsOf(many, func(at int) int { return 100000 - at }),
		drawnMixture(draw, many, 1),
		drawnMixture(draw, many, 3),
		drawnMixture(draw, many, 1000),
		drawnMixture(draw, many, 100000),
	}
}

// mixed is a game with a mixture of its rows and one of its columns.
type mixed struct {
	g    [][]int
	x, y []int
}

// mixedGames are games of all sizes with mixtures of their rows and columns.
func mixedGames() []mixed {
	draw := rand.New(rand.NewSource(4))
	var list []mixed
	for _, g := range slices.Concat(drawnGames(), saddleGames(), alikeGames()) {
		columns := mixtures(draw, len(g[0]))
		for i, x := range mixtures(draw, len(g)) {
			list = append(list, mixed{g, x, columns[i]})
		}
		list = append(list, mixed{g, allWeigh(len(g), 100000), columns[draw.Intn(9)]}, mixed{g, drawnMixture(draw, len(g), 5), columns[0]})
	}
	for _, g := range smallGames() {
		list = append(list, mixed{g, drawnMixture(draw, len(g), 4), drawnMixture(draw, len(g[0]), 4)})
	}
	return list
}

// noMixtures break one rule each for so many weights, so that a check that is left out is seen.
func noMixtures(many int) [][]int {
	list := [][]int{nil, {}, allWeigh(many, 0), allWeigh(many+1, 0), allWeigh(many+1, 1), allWeigh(many+16, 1), append(allWeigh(many, 1), 0), append(allWeigh(many, 0), 1)}
	if many > 1 {
		list = append(list, allWeigh(many-1, 1), oneWeighs(many-1, 0, 1))
	}
	for _, weight := range []int{-1, -2, -100000, 100001, 200000, math.MaxInt, math.MinInt} {
		list = append(list, allWeigh(many, weight))
		for at := range many {
			ones, most := allWeigh(many, 1), allWeigh(many, 100000)
			ones[at], most[at] = weight, weight
			list = append(list, ones, most, oneWeighs(many, at, weight))
		}
	}
	return list
}

// averageByHand adds up all numbers as big rationals, each as its part of the whole.
func averageByHand(g [][]int, x []int, y []int) *big.Rat {
	var rows, columns int64
	for _, weight := range x {
		rows += int64(weight)
	}
	for _, weight := range y {
		columns += int64(weight)
	}
	sum := new(big.Rat)
	for r, row := range g {
		for c, n := range row {
			part := new(big.Rat).Mul(big.NewRat(int64(x[r]), rows), big.NewRat(int64(y[c]), columns))
			sum.Add(sum, part.Mul(part, big.NewRat(int64(n), 1)))
		}
	}
	return sum
}

// lineByHand is the average of one row of a game for a mixture of columns.
func lineByHand(line []int, y []int) *big.Rat {
	var sum, all int64
	for i, n := range line {
		sum += int64(n) * int64(y[i])
		all += int64(y[i])
	}
	return big.NewRat(sum, all)
}

func columnByHand(g [][]int, column int) []int {
	return weightsOf(len(g), func(row int) int { return g[row][column] })
}

// safeByHand takes the least average over all columns.
func safeByHand(g [][]int, x []int) *big.Rat {
	var least *big.Rat
	for c := range g[0] {
		if f := lineByHand(columnByHand(g, c), x); least == nil || f.Cmp(least) < 0 {
			least = f
		}
	}
	return least
}

// riskByHand takes the greatest average over all rows, and all rows that have it.
func riskByHand(g [][]int, y []int) (*big.Rat, []int) {
	var most *big.Rat
	var rows []int
	for r, row := range g {
		f := lineByHand(row, y)
		if most == nil || f.Cmp(most) > 0 {
			most, rows = f, nil
		}
		if f.Cmp(most) == 0 {
			rows = append(rows, r)
		}
	}
	return most, rows
}

func TestMaxWeight(t *testing.T) {
	if impl.MaxWeight != 100000 {
		t.Fatal(impl.MaxWeight)
	}
}

func TestPromise12OneRowAloneIsAMixture(t *testing.T) {
	for many := 1; many <= 20; many++ {
		for at := range many {
			for _, weight := range []int{1, 2, 99999, 100000} {
				if got := impl.MixOk(oneWeighs(many, at, weight), many); got != (many <= 16) {
					t.Errorf("MixOk of the weight %d alone at %d of %d is %v", weight, at, many, got)
				}
			}
		}
		if impl.MixOk(allWeigh(many, 0), many) {
			t.Errorf("MixOk of %d weights of 0", many)
		}
	}
}

func TestPromise12Weights(t *testing.T) {
	draw := rand.New(rand.NewSource(5))
	for many := 1; many <= 16; many++ {
		for _, x := range mixtures(draw, many) {
			for other := -1; other <= 20; other++ {
				if got := impl.MixOk(x, other); got != (other == many) {
					t.Errorf("MixOk(%v, %d) = %v", x, other, got)
				}
			}
		}
		for _, x := range noMixtures(many) {
			if impl.MixOk(x, many) {
				t.Errorf("MixOk(%v, %d) = true", x, many)
			}
		}
	}
}

func TestPromise12HowMany(t *testing.T) {
	for _, many := range []int{0, -1, -16, 17, 18, 1000, math.MaxInt, math.MinInt} {
		for _, length := range []int{0, 1, 2, 16, 17, 18, 1000} {
			if impl.MixOk(allWeigh(length, 1), many) {
				t.Errorf("MixOk of %d weights, where there are %d", length, many)
			}
		}
		if impl.MixOk(nil, many) {
			t.Errorf("MixOk(nil, %d) = true", many)
		}
	}
}

func TestPromise13AveragesAreBetweenWhatIsSafeAndWhatIsRisked(t *testing.T) {
	several := 0
	for _, m := range mixedGames() {
		average, ok := impl.AverageOf(m.g, m.x, m.y)
		want, told := fracOfRat(averageByHand(m.g, m.x, m.y))
		if average != want || ok != told {
			t.Fatalf("AverageOf(%v, %v, %v) = %v, %v, not %v, %v", m.g, m.x, m.y, average, ok, want, told)
		}
		if !ok {
			several++
			continue
		}
		safe, _ := impl.SafeOf(m.g, m.x)
		risk, _ := impl.RiskOf(m.g, m.y)
		if !impl.FracOk(average) || impl.LessOk(average, safe) || impl.LessOk(risk, average) {
			t.Fatalf("%v, %v, %v: %v is safe, %v risked, but the average is %v", m.g, m.x, m.y, safe, risk, average)
		}
		twice := weightsOf(len(m.x), func(at int) int { return 2 * m.x[at] })
		if again, ok := impl.AverageOf(m.g, twice, m.y); slices.Max(twice) <= 100000 && (!ok || again != average) {
			t.Fatalf("AverageOf(%v, %v, %v) = %v, but %v, %v with %v", m.g, m.x, m.y, average, again, ok, twice)
		}
	}
	if several < 100 {
		t.Fatalf("only %d averages are no fractions: too few to test them", several)
	}
}

func TestPromise13Examples(t *testing.T) {
	coins := [][]int{{1, -1}, {-1, 1}}
	for _, c := range []struct {
		mixed
		want impl.Frac
	}{
		{mixed{coins, []int{3, 1}, []int{1, 0}}, impl.Frac{Up: 1, Down: 2}},
		{mixed{coins, []int{3, 1}, []int{0, 7}}, impl.Frac{Up: -1, Down: 2}},
		{mixed{coins, []int{1, 1}, []int{5, 0}}, impl.Frac{Up: 0, Down: 1}},
		{mixed{coins, []int{3, 1}, []int{2, 1}}, impl.Frac{Up: 1, Down: 6}},
		{mixed{[][]int{{-7}}, []int{3}, []int{100000}}, impl.Frac{Up: -7, Down: 1}},
		{mixed{[][]int{{2, 5, 9}}, []int{4}, []int{1, 0, 3}}, impl.Frac{Up: 29, Down: 4}},
		{mixed{[][]int{{2}, {5}, {9}}, []int{1, 0, 3}, []int{4}}, impl.Frac{Up: 29, Down: 4}},
		{mixed{[][]int{{1, 2, 3}, {4, 5, 6}}, []int{1, 2}, []int{1, 1, 2}}, impl.Frac{Up: 17, Down: 4}},
		{mixed{alike(16, 16, 9), allWeigh(16, 100000), allWeigh(16, 100000)}, impl.Frac{Up: 9, Down: 1}},
		{mixed{alike(16, 16, -9), allWeigh(16, 100000), allWeigh(16, 100000)}, impl.Frac{Up: -9, Down: 1}},
		{mixed{with(alike(16, 16, 0), 15, 15, 1), allWeigh(16, 100000), allWeigh(16, 100000)}, impl.Frac{Up: 1, Down: 256}},
		{mixed{with(alike(16, 16, 9), 0, 15, -9), allWeigh(16, 100000), allWeigh(16, 100000)}, impl.Frac{Up: 9*255 - 9, Down: 256}},
	} {
		c.want, _ = impl.FracOf(c.want.Up, c.want.Down)
		if f, ok := impl.AverageOf(c.g, c.x, c.y); !ok || f != c.want {
			t.Errorf("AverageOf(%v, %v, %v) = %v, %v", c.g, c.x, c.y, f, ok)
		}
	}
}

// The averages are just within the bounds of fractions, or just beyond them: 52579 times 19019 is 1000000001, and 499 times 250501 is 124999999.
func TestPromise13AveragesAtTheBounds(t *testing.T) {
	corner := [][]int{{1, 0}, {0, 0}}
	step := [][]int{{9, 8, 8, 8}, {8, 8, 8, 8}}
	for _, c := range []struct {
		mixed
		want impl.Frac
		ok   bool
	}{
		{mixed{corner, []int{1, 99999}, []int{1, 9999}}, impl.Frac{Up: 1, Down: 1000000000}, true},
		{mixed{corner, []int{1, 52578}, []int{1, 19018}}, impl.Frac{}, false},
		{mixed{corner, []int{7, 52572}, []int{1, 19018}}, impl.Frac{Up: 1, Down: 142857143}, true},
		{mixed{corner, []int{1, 99999}, []int{1, 100000}}, impl.Frac{}, false},
		{mixed{corner, []int{1, 99999}, []int{0, 100000}}, impl.Frac{Up: 0, Down: 1}, true},
		{mixed{step, []int{8, 491}, []int{1, 100000, 100000, 50500}}, impl.Frac{Up: 1000000000, Down: 124999999}, true},
		{mixed{step, []int{9, 490}, []int{1, 100000, 100000, 50500}}, impl.Frac{}, false},
	} {
		for _, sign := range []int{1, -1} {
			g := gameOf(len(c.g), len(c.g[0]), func(row int, column int) int { return sign * c.g[row][column] })
			want := impl.Frac{Up: sign * c.want.Up, Down: c.want.Down}
			if f, ok := impl.AverageOf(g, c.x, c.y); ok != c.ok || f != want {
				t.Errorf("AverageOf(%v, %v, %v) = %v, %v", g, c.x, c.y, f, ok)
			}
		}
	}
}

// callsWithout are no games with weights, and games with weights of which neither is a mixture.
func callsWithout() []mixed {
	var list []mixed
	for _, g := range noGames() {
		rows, columns := 1, 1
		if len(g) > 0 {
			rows = len(g)
			columns = max(1, len(g[0]))
		}
		list = append(list, mixed{g, allWeigh(rows, 1), allWeigh(columns, 1)}, mixed{g, nil, nil}, mixed{g, allWeigh(rows, 0), allWeigh(columns, 0)})
	}
	for _, g := range [][][]int{{{0}}, {{1, 2, 3}}, {{1}, {2}, {3}}, {{3, 1, 4}, {2, 2, 2}}, alike(15, 16, 0), alike(16, 16, 9)} {
		rows, columns := noMixtures(len(g)), noMixtures(len(g[0]))
		for i := range max(len(rows), len(columns)) {
			list = append(list, mixed{g, rows[i%len(rows)], columns[i%len(columns)]})
		}
	}
	return list
}

func TestPromises13To17WithoutGamesOrMixtures(t *testing.T) {
	none := impl.Frac{}
	for _, m := range callsWithout() {
		if f, ok := impl.AverageOf(m.g, m.x, m.y); ok || f != none {
			t.Fatalf("AverageOf(%v, %v, %v) = %v, %v", m.g, m.x, m.y, f, ok)
		}
		if f, ok := impl.SafeOf(m.g, m.x); ok || f != none {
			t.Fatalf("SafeOf(%v, %v) = %v, %v", m.g, m.x, f, ok)
		}
		if f, ok := impl.RiskOf(m.g, m.y); ok || f != none {
			t.Fatalf("RiskOf(%v, %v) = %v, %v", m.g, m.y, f, ok)
		}
		if impl.SettledOk(m.g, m.x, m.y) {
			t.Fatalf("SettledOk(%v, %v, %v) = true", m.g, m.x, m.y)
		}
		if list := impl.BestRows(m.g, m.y); len(list) != 0 {
			t.Fatalf("BestRows(%v, %v) = %v", m.g, m.y, list)
		}
	}
}

func TestPromises13And16WithOneMixtureOnly(t *testing.T) {
	for _, g := range [][][]int{{{0}}, {{0, 0, 0}}, {{0}, {0}, {0}}, alike(2, 3, 0), alike(16, 15, 9), alike(16, 16, 9)} {
		x, y := allWeigh(len(g), 1), allWeigh(len(g[0]), 1)
		if f, ok := impl.AverageOf(g, x, y); !ok || f != (impl.Frac{Up: g[0][0], Down: 1}) || !impl.SettledOk(g, x, y) {
			t.Errorf("AverageOf(%v, %v, %v) = %v, %v", g, x, y, f, ok)
		}
		for _, bad := range noMixtures(len(g)) {
			if f, ok := impl.AverageOf(g, bad, y); ok || f != (impl.Frac{}) || impl.SettledOk(g, bad, y) {
				t.Errorf("AverageOf(%v, %v, %v) = %v, %v", g, bad, y, f, ok)
			}
		}
		for _, bad := range noMixtures(len(g[0])) {
			if f, ok := impl.AverageOf(g, x, bad); ok || f != (impl.Frac{}) || impl.SettledOk(g, x, bad) {
				t.Errorf("AverageOf(%v, %v, %v) = %v, %v", g, x, bad, f, ok)
			}
		}
	}
}

func TestPromise14MixturesAreAtLeastAsSafeAsWhatIsWorst(t *testing.T) {
	for _, m := range mixedGames() {
		safe, ok := impl.SafeOf(m.g, m.x)
		if want, _ := fracOfRat(safeByHand(m.g, m.x)); !ok || safe != want {
			t.Fatalf("SafeOf(%v, %v) = %v, %v, not %v", m.g, m.x, safe, ok, want)
		}
		for c := range m.g[0] {
			if risk, ok := impl.RiskOf(m.g, oneWeighs(len(m.g[0]), c, 1)); !ok || impl.LessOk(risk, safe) {
				t.Fatalf("%v: %v is safe for %v, but the column %d risks %v, %v", m.g, m.x, safe, c, risk, ok)
			}
		}
	}
}

func TestPromise14OneRowAlone(t *testing.T) {
	for _, g := range games() {
		floor, row, _ := impl.FloorOf(g)
		for _, weight := range []int{1, 3, 100000} {
			if safe, ok := impl.SafeOf(g, oneWeighs(len(g), row, weight)); !ok || safe != (impl.Frac{Up: floor, Down: 1}) {
				t.Fatalf("SafeOf(%v) of the row %d alone is %v, %v, but the floor %d", g, row, safe, ok, floor)
			}
		}
	}
	for _, g := range drawnGames() {
		for row, numbers := range g {
			if safe, ok := impl.SafeOf(g, oneWeighs(len(g), row, 1)); !ok || safe != (impl.Frac{Up: slices.Min(numbers), Down: 1}) {
				t.Fatalf("SafeOf(%v) of the row %d alone is %v, %v", g, row, safe, ok)
			}
		}
	}
}

func TestPromise14Examples(t *testing.T) {
	for _, c := range []struct {
		g    [][]int
		x    []int
		want impl.Frac
	}{
		{[][]int{{1, -1}, {-1, 1}}, []int{3, 1}, impl.Frac{Up: -1, Down: 2}},
		{[][]int{{1, -1}, {-1, 1}}, []int{1, 1}, impl.Frac{Up: 0, Down: 1}},
		{[][]int{{3, -1}, {-2, 4}}, []int{3, 2}, impl.Frac{Up: 1, Down: 1}},
		{[][]int{{3, -1}, {-2, 4}}, []int{0, 2}, impl.Frac{Up: -2, Down: 1}},
		{[][]int{{-7}}, []int{5}, impl.Frac{Up: -7, Down: 1}},
		{[][]int{{4, 2, 3}}, []int{100000}, impl.Frac{Up: 2, Down: 1}},
		{[][]int{{4}, {2}, {3}}, []int{1, 0, 1}, impl.Frac{Up: 7, Down: 2}},
		{[][]int{{4, 9}, {2, 9}, {3, 9}}, []int{100000, 99999, 100000}, impl.Frac{Up: 899998, Down: 299999}},
		{[][]int{{1, 0, 0}, {0, 1, 0}, {0, 0, 1}}, []int{100000, 99998, 99999}, impl.Frac{Up: 99998, Down: 299997}},
		{with(alike(16, 16, 9), 15, 0, -9), allWeigh(16, 100000), impl.Frac{Up: 63, Down: 8}},
		{alike(16, 16, -9), allWeigh(16, 100000), impl.Frac{Up: -9, Down: 1}},
	} {
		if f, ok := impl.SafeOf(c.g, c.x); !ok || f != c.want {
			t.Errorf("SafeOf(%v, %v) = %v, %v", c.g, c.x, f, ok)
		}
	}
}

func TestPromise15RisksAreWhatIsSafeFromTheOtherSide(t *testing.T) {
	for _, m := range mixedGames() {
		risk, ok := impl.RiskOf(m.g, m.y)
		most, _ := riskByHand(m.g, m.y)
		if want, _ := fracOfRat(most); !ok || risk != want {
			t.Fatalf("RiskOf(%v, %v) = %v, %v, not %v", m.g, m.y, risk, ok, want)
		}
		if safe, told := impl.SafeOf(impl.TurnedOf(m.g), m.y); !told || risk != impl.MinusOf(safe) {
			t.Fatalf("RiskOf(%v, %v) = %v, but from the other side %v is safe, %v", m.g, m.y, risk, safe, told)
		}
	}
}

func TestPromise15Examples(t *testing.T) {
	for _, c := range []struct {
		g    [][]int
		y    []int
		want impl.Frac
	}{
		{[][]int{{1, -1}, {-1, 1}}, []int{1, 2}, impl.Frac{Up: 1, Down: 3}},
		{[][]int{{1, -1}, {-1, 1}}, []int{2, 2}, impl.Frac{Up: 0, Down: 1}},
		{[][]int{{3, -1}, {-2, 4}}, []int{1, 1}, impl.Frac{Up: 1, Down: 1}},
		{[][]int{{3, -1}, {-2, 4}}, []int{0, 9}, impl.Frac{Up: 4, Down: 1}},
		{[][]int{{-7}}, []int{5}, impl.Frac{Up: -7, Down: 1}},
		{[][]int{{4}, {2}, {3}}, []int{100000}, impl.Frac{Up: 4, Down: 1}},
		{[][]int{{-4, -2, -3}}, []int{1, 0, 1}, impl.Frac{Up: -7, Down: 2}},
		{[][]int{{1, 0, 0}, {0, 1, 0}, {0, 0, 1}}, []int{99999, 99998, 100000}, impl.Frac{Up: 100000, Down: 299997}},
		{with(alike(16, 16, -9), 0, 15, 9), allWeigh(16, 100000), impl.Frac{Up: -63, Down: 8}},
		{alike(16, 16, 9), allWeigh(16, 100000), impl.Frac{Up: 9, Down: 1}},
	} {
		if f, ok := impl.RiskOf(c.g, c.y); !ok || f != c.want {
			t.Errorf("RiskOf(%v, %v) = %v, %v", c.g, c.y, f, ok)
		}
	}
}

// settledGames are games with mixtures that are settled: with saddles, of two rows and columns without one, boxes and rings of choices.
func settledGames() []mixed {
	draw := rand.New(rand.NewSource(6))
	var list []mixed
	for _, g := range slices.Concat(saddleGames(), alikeGames()) {
		_, row, _ := impl.FloorOf(g)
		_, column, _ := impl.RoofOf(g)
		list = append(list, mixed{g, oneWeighs(len(g), row, 1+draw.Intn(100000)), oneWeighs(len(g[0]), column, 1+draw.Intn(100000))})
	}
	for range 300 {
		a, b := 1+draw.Intn(9), 1+draw.Intn(9)
		c, d := a-1-draw.Intn(10), b-1-draw.Intn(10)
		if c >= b || d >= a {
			continue
		}
		// In the rows a, c and d, b each diagonal beats the other one, so that no row and no column is worse.
		times := 1 + draw.Intn(2000)
		list = append(list, mixed{[][]int{{a, c}, {d, b}}, []int{times * (b - d), times * (a - c)}, []int{b - c, a - d}})
	}
	for many := 1; many <= 15; many += 2 {
		ring := gameOf(many, many, func(r int, c int) int {
			switch far := (c - r + many) % many; {
			case far == 0:
				return 0
			case far <= many/2:
				return 1
			}
			return -1
		})
		list = append(list, mixed{ring, allWeigh(many, 100000), allWeigh(many, 7)})
	}
	for many := 1; many <= 16; many++ {
		same := gameOf(many, many, func(r int, c int) int {
			if r == c {
				return 1
			}
			return 0
		})
		list = append(list, mixed{same, allWeigh(many, 100000), allWeigh(many, 99999)})
	}
	return list
}

func TestPromise16WhatIsSettledIsWhatTheGameIsWorth(t *testing.T) {
	draw := rand.New(rand.NewSource(7))
	for _, m := range settledGames() {
		if !impl.SettledOk(m.g, m.x, m.y) {
			t.Fatalf("SettledOk(%v, %v, %v) = false", m.g, m.x, m.y)
		}
		safe, _ := impl.SafeOf(m.g, m.x)
		if average, ok := impl.AverageOf(m.g, m.x, m.y); !ok || average != safe {
			t.Fatalf("%v, %v, %v: %v is safe, but the average is %v, %v", m.g, m.x, m.y, safe, average, ok)
		}
		columns := mixtures(draw, len(m.g[0]))
		for i, x := range mixtures(draw, len(m.g)) {
			if safer, ok := impl.SafeOf(m.g, x); !ok || impl.LessOk(safe, safer) {
				t.Fatalf("%v: the game is worth %v, but %v is safe for %v, %v", m.g, safe, x, safer, ok)
			}
			if risk, ok := impl.RiskOf(m.g, columns[i]); !ok || impl.LessOk(risk, safe) {
				t.Fatalf("%v: the game is worth %v, but %v risks %v, %v", m.g, safe, columns[i], risk, ok)
			}
		}
	}
}

func TestPromise16OtherMixtures(t *testing.T) {
	settled := 0
	for _, m := range append(mixedGames(), settledGames()...) {
		most, _ := riskByHand(m.g, m.y)
		want := safeByHand(m.g, m.x).Cmp(most) == 0
		if got := impl.SettledOk(m.g, m.x, m.y); got != want {
			t.Fatalf("SettledOk(%v, %v, %v) = %v", m.g, m.x, m.y, got)
		}
		if want {
			settled++
		}
	}
	if settled < 500 {
		t.Fatalf("only %d are settled: too few to test them", settled)
	}
}

func TestPromise16Examples(t *testing.T) {
	coins := [][]int{{1, -1}, {-1, 1}}
	for _, c := range []struct {
		mixed
		want bool
	}{
		{mixed{coins, []int{1, 1}, []int{2, 2}}, true},
		{mixed{coins, []int{1, 1}, []int{1, 0}}, false},
		{mixed{coins, []int{100000, 100000}, []int{1, 1}}, true},
		{mixed{coins, []int{100000, 99999}, []int{1, 1}}, false},
		{mixed{coins, []int{1, 1}, []int{99999, 100000}}, false},
		{mixed{[][]int{{3, -1}, {-2, 4}}, []int{3, 2}, []int{1, 1}}, true},
		{mixed{[][]int{{3, -1}, {-2, 4}}, []int{1, 1}, []int{3, 2}}, false},
		{mixed{[][]int{{3, 1, 4}, {2, 2, 2}}, []int{0, 5}, []int{0, 3, 0}}, true},
		{mixed{[][]int{{3, 1, 4}, {2, 2, 2}}, []int{0, 5}, []int{1, 1, 0}}, true},
		{mixed{[][]int{{3, 1, 4}, {2, 2, 2}}, []int{0, 5}, []int{2, 1, 0}}, false},
		{mixed{[][]int{{5}}, []int{1}, []int{100000}}, true},
		{mixed{[][]int{{1, 0, 0}, {0, 1, 0}, {0, 0, 1}}, []int{1, 1, 1}, []int{1, 1, 1}}, true},
		{mixed{[][]int{{1, 0, 0}, {0, 1, 0}, {0, 0, 1}}, []int{1, 1, 1}, []int{1, 1, 0}}, false},
		{mixed{[][]int{{1, 0, 0}, {0, 1, 0}}, []int{1, 1}, []int{0, 0, 1}}, true},
	} {
		if got := impl.SettledOk(c.g, c.x, c.y); got != c.want {
			t.Errorf("SettledOk(%v, %v, %v) = %v", c.g, c.x, c.y, got)
		}
	}
}

// nearTies is a game of 9, but 8 on the diagonal: averages for nearly the same great weights differ by less than a float32 can tell at 9.
func nearTies() [][]int {
	return gameOf(16, 16, func(r int, c int) int {
		if r == c {
			return 8
		}
		return 9
	})
}

func TestPromises14To17NearTies(t *testing.T) {
	g := nearTies()
	most, less := allWeigh(16, 100000), allWeigh(16, 100000)
	less[5] = 99999
	least := slices.Clone(less)
	least[9] = 99998
	if !impl.SettledOk(g, most, allWeigh(16, 1)) || impl.SettledOk(g, less, most) || impl.SettledOk(g, most, less) {
		t.Error("SettledOk does not tell weights of 99999 from weights of 100000")
	}
	if f, ok := impl.SafeOf(g, less); !ok || f != (impl.Frac{Up: 9*1599999 - 100000, Down: 1599999}) {
		t.Errorf("SafeOf(%v, %v) = %v, %v", g, less, f, ok)
	}
	if f, ok := impl.RiskOf(g, least); !ok || f != (impl.Frac{Up: 9*1599997 - 99998, Down: 1599997}) {
		t.Errorf("RiskOf(%v, %v) = %v, %v", g, least, f, ok)
	}
	if f, ok := impl.SafeOf(turnedByHand(g), least); !ok || f != (impl.Frac{Up: 99998 - 9*1599997, Down: 1599997}) {
		t.Errorf("SafeOf(%v, %v) from the other side is %v, %v", g, least, f, ok)
	}
	for at, y := range map[int][]int{5: less, 9: least} {
		if list := impl.BestRows(g, y); !slices.Equal(list, []int{at}) {
			t.Errorf("BestRows(%v, %v) = %v", g, y, list)
		}
	}
}

func TestPromise17BestRowsGetWhatIsRisked(t *testing.T) {
	draw := rand.New(rand.NewSource(8))
	for _, m := range append(mixedGames(), settledGames()...) {
		list := impl.BestRows(m.g, m.y)
		if _, want := riskByHand(m.g, m.y); len(list) == 0 || !slices.Equal(list, want) {
			t.Fatalf("BestRows(%v, %v) = %v, not %v", m.g, m.y, list, want)
		}
		risk, _ := impl.RiskOf(m.g, m.y)
		same, drawn := make([]int, len(m.g)), make([]int, len(m.g))
		for _, row := range list {
			same[row], drawn[row] = 1, 1+draw.Intn(100000)
		}
		for _, x := range [][]int{same, drawn} {
			if average, ok := impl.AverageOf(m.g, x, m.y); !ok || average != risk {
				t.Fatalf("%v: %v risks %v, but against %v the average is %v, %v", m.g, m.y, risk, x, average, ok)
			}
		}
	}
}

func TestPromise17Examples(t *testing.T) {
	var all []int
	for row := range 16 {
		all = append(all, row)
	}
	for _, c := range []struct {
		g    [][]int
		y    []int
		want []int
	}{
		{[][]int{{1, -1}, {-1, 1}}, []int{1, 2}, []int{1}},
		{[][]int{{1, -1}, {-1, 1}}, []int{2, 1}, []int{0}},
		{[][]int{{1, -1}, {-1, 1}}, []int{1, 1}, []int{0, 1}},
		{[][]int{{1, -1}, {-1, 1}}, []int{100000, 99999}, []int{0}},
		{[][]int{{-3}}, []int{4}, []int{0}},
		{[][]int{{4}, {5}, {2}, {5}}, []int{1}, []int{1, 3}},
		{[][]int{{4, 5, 2, 5}}, []int{1, 0, 0, 9}, []int{0}},
		{[][]int{{-9, 0}, {9, -9}, {-9, 0}}, []int{0, 100000}, []int{0, 2}},
		{[][]int{{0, 3}, {2, 0}, {1, 1}}, []int{3, 2}, []int{0, 1}},
		{[][]int{{0, 0, 1}, {0, 1, 0}, {1, 0, 0}}, []int{100000, 99999, 100000}, []int{0, 2}},
		{alike(16, 16, -9), allWeigh(16, 100000), all},
		{with(alike(16, 16, 9), 3, 3, 8), allWeigh(16, 100000), append(slices.Clone(all[:3]), all[4:]...)},
		{with(alike(16, 16, 8), 3, 3, 9), allWeigh(16, 100000), []int{3}},
	} {
		if list := impl.BestRows(c.g, c.y); !slices.Equal(list, c.want) {
			t.Errorf("BestRows(%v, %v) = %v, not %v", c.g, c.y, list, c.want)
		}
	}
}

// askMixtures calls each function of the chapter once, with a mixture for each argument.
func askMixtures(g [][]int, x []int, y []int) {
	impl.MixOk(x, len(x))
	impl.MixOk(y, len(y))
	impl.AverageOf(g, x, y)
	impl.SafeOf(g, x)
	impl.RiskOf(g, y)
	impl.SettledOk(g, x, y)
	impl.BestRows(g, y)
}

func TestMixturesAreNotWrittenTo(t *testing.T) {
	for _, m := range slices.Concat(mixedGames(), settledGames(), callsWithout()) {
		given, whole := roomy(m.g)
		mixes, wholeMixes := roomy([][]int{m.x, m.y})
		before, beforeMixes := wholeOf(whole), wholeOf(wholeMixes)
		askMixtures(given, mixes[0], mixes[1])
		if !reflect.DeepEqual(wholeOf(whole), before) || !reflect.DeepEqual(wholeOf(wholeMixes), beforeMixes) {
			t.Fatalf("%v and %v are %v and %v behind the calls", before, beforeMixes, wholeOf(whole), wholeOf(wholeMixes))
		}
	}
}

func TestBestRowsShareNoMemory(t *testing.T) {
	for _, m := range append(settledGames(), mixed{alike(16, 16, 3), allWeigh(16, 1), allWeigh(16, 1)}) {
		given, whole := roomy(m.g)
		mixes, wholeMixes := roomy([][]int{m.y})
		before, beforeMixes := wholeOf(whole), wholeOf(wholeMixes)
		_, want := riskByHand(m.g, m.y)
		first, second := impl.BestRows(given, mixes[0]), impl.BestRows(given, mixes[0])
		spoil([][]int{first})
		if !slices.Equal(second, want) {
			t.Fatalf("BestRows(%v, %v): two results share memory", m.g, m.y)
		}
		if !reflect.DeepEqual(wholeOf(whole), before) || !reflect.DeepEqual(wholeOf(wholeMixes), beforeMixes) {
			t.Fatalf("BestRows(%v, %v) shares memory with its arguments", m.g, m.y)
		}
		spoil(whole)
		spoil(wholeMixes)
		if !slices.Equal(second, want) {
			t.Fatalf("BestRows(%v, %v) changes with its arguments", m.g, m.y)
		}
	}
}
