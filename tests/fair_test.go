package tests

import (
	"math"
	"math/big"
	"math/rand"
	"reflect"
	"slices"
	"testing"

	"loop.example/hideandseek/impl"
)

// drawnFair are drawn games of all sizes that are themselves from the other side, with few different numbers and with all of them.
func drawnFair() [][][]int {
	draw := rand.New(rand.NewSource(21))
	var list [][][]int
	for many := 1; many <= 16; many++ {
		for _, wide := range []int{0, 1, 2, 9} {
			for range 6 {
				g := alike(many, many, 0)
				for r := range many {
					for c := range r {
						g[r][c] = draw.Intn(2*wide+1) - wide
						g[c][r] = -g[r][c]
					}
				}
				list = append(list, g)
			}
		}
	}
	return list
}

// fairByHand holds each number against the one that the other side has, and with it each one of 0 against itself.
func fairByHand(g [][]int) bool {
	if len(g) != len(g[0]) {
		return false
	}
	for place := range len(g) * len(g) {
		if r, c := place/len(g), place%len(g); g[r][c]+g[c][r] != 0 {
			return false
		}
	}
	return true
}

// almostFair are games that are fair but for one number: each place of few rows with each other number, and some places of many rows.
func almostFair() [][][]int {
	draw := rand.New(rand.NewSource(22))
	var list [][][]int
	for _, g := range drawnFair() {
		many := len(g)
		for r := range many {
			for c := range many {
				if many > 5 && draw.Intn(10) > 0 && (r+1 < many || c+1 < many) {
					continue
				}
				for n := -9; n <= 9; n++ {
					if n != g[r][c] && (many < 4 || draw.Intn(4) == 0) {
						list = append(list, with(g, r, c, n))
					}
				}
			}
		}
	}
	return list
}

// noFair are tables that would be fair, if they were games.
func noFair() [][][]int {
	list := [][][]int{{{}}, {{}, {}}, {{0, 1}, {-1}}, {{0}, {0, 0}}, {{0, 1}, {-1, 0}, {}}, alike(17, 17, 0), alike(18, 18, 0), alike(100, 100, 0)}
	for _, n := range []int{10, -10, 11, 100, 256, 1000000000, math.MaxInt32, math.MinInt32, math.MaxInt, math.MinInt + 1, math.MinInt} {
		list = append(list, [][]int{{0, n}, {-n, 0}}, with(with(alike(16, 16, 0), 0, 15, n), 15, 0, -n))
	}
	// From the other side the least number of all is itself.
	return append(list, [][]int{{math.MinInt}}, alike(3, 3, math.MinInt))
}

// force is how many soldiers there are, and on how many fields.
type force struct{ soldiers, fields int }

// forces are all soldiers on all fields.
func forces() []force {
	var list []force
	for soldiers := 1; soldiers <= 4; soldiers++ {
		for fields := 1; fields <= 3; fields++ {
			list = append(list, force{soldiers, fields})
		}
	}
	return list
}

// farFew are very large and very small numbers, some of which are 1, 2 or 3 in their low bits.
func farFew() []int {
	return append(slices.Clone(farNumbers), 256+1, 256+2, 256+3, 65536+1, 65536+2, 65536+3, -256+1, -256+3, -65536+2, math.MinInt32+1, math.MinInt32+3, math.MinInt+2, math.MinInt+3)
}

// noForces are numbers of which soldiers, fields or both are none.
func noForces() []force {
	var list []force
	for soldiers := -20; soldiers <= 20; soldiers++ {
		for fields := -20; fields <= 20; fields++ {
			if soldiers < 1 || soldiers > 4 || fields < 1 || fields > 3 {
				list = append(list, force{soldiers, fields})
			}
		}
	}
	for _, far := range farFew() {
		for near := -5; near <= 5; near++ {
			list = append(list, force{far, near}, force{near, far})
		}
		for _, other := range farFew() {
			list = append(list, force{far, other})
		}
	}
	return list
}

// placingsByHand counts up all rows of numbers, and takes those that have all soldiers.
func placingsByHand(f force) [][]int {
	codes := 1
	for range f.fields {
		codes *= f.soldiers + 1
	}
	var list [][]int
	for code := range codes {
		row, left := make([]int, f.fields), code
		for at := f.fields - 1; at >= 0; at-- {
			row[at], left = left%(f.soldiers+1), left/(f.soldiers+1)
		}
		if total(row) == f.soldiers {
			list = append(list, row)
		}
	}
	return list
}

// soldierGameByHand counts the fields with more soldiers, and those with fewer.
func soldierGameByHand(f force) [][]int {
	list := placingsByHand(f)
	return gameOf(len(list), len(list), func(r int, c int) int {
		more, fewer := 0, 0
		for field := range f.fields {
			more += oneOrNone(list[r][field] > list[c][field])
			fewer += oneOrNone(list[r][field] < list[c][field])
		}
		return more - fewer
	})
}

// manyChoices are all numbers of choices of a ring.
var manyChoices = []int{1, 3, 5, 7, 9, 11, 13, 15}

// noChoices are numbers of choices of which there is no ring.
func noChoices() []int {
	list := farFew()
	for choices := -40; choices <= 40; choices++ {
		if !slices.Contains(manyChoices, choices) {
			list = append(list, choices)
		}
	}
	return list
}

// beatingByHand goes round the ring from each choice: half of the others are beaten, and the other half beats it.
func beatingByHand(choices int) [][]int {
	g := alike(choices, choices, 0)
	for r := range choices {
		for step := 1; step < choices; step++ {
			at := r + step
			if at >= choices {
				at -= choices
			}
			g[r][at] = 1
			if 2*step > choices {
				g[r][at] = -1
			}
		}
	}
	return g
}

// sizesTogether are all sizes of games of at most 8 rows and columns together.
func sizesTogether() [][2]int {
	var list [][2]int
	for rows := 1; rows <= 7; rows++ {
		for columns := 1; rows+columns <= 8; columns++ {
			list = append(list, [2]int{rows, columns})
		}
	}
	return list
}

// fairOrigins are games from which fair ones are made: of all sizes that may be, all numbers of one row and one column, and all small games.
func fairOrigins() [][][]int {
	draw := rand.New(rand.NewSource(23))
	list := smallGames()
	for n := -9; n <= 9; n++ {
		list = append(list, [][]int{{n}})
	}
	for _, size := range sizesTogether() {
		list = append(list, alike(size[0], size[1], 0), alike(size[0], size[1], 9), alike(size[0], size[1], -9))
		for _, wide := range []int{1, 2, 9} {
			for range 5 {
				list = append(list, gameOf(size[0], size[1], func(int, int) int { return draw.Intn(2*wide+1) - wide }))
			}
		}
	}
	return list
}

// aboveNothing are games of numbers more than 0 that are solved.
func aboveNothing() [][][]int {
	draw := rand.New(rand.NewSource(24))
	var list [][][]int
	for rows := 1; rows <= 4; rows++ {
		for columns := 1; columns <= 4; columns++ {
			list = append(list, alike(rows, columns, 1), alike(rows, columns, 9))
			for _, most := range []int{2, 3, 9} {
				for range 60 {
					list = append(list, gameOf(rows, columns, func(int, int) int { return 1 + draw.Intn(most) }))
				}
			}
		}
	}
	for n := 1; n <= 9; n++ {
		list = append(list, [][]int{{n}})
	}
	return append(list, [][]int{{9, 1}, {1, 9}}, [][]int{{9, 1, 1}, {1, 8, 1}, {1, 1, 7}}, [][]int{{9, 1, 1, 1}, {1, 8, 1, 1}, {1, 1, 7, 1}, {1, 1, 1, 6}})
}

// notTogether are games, but of more than 8 rows and columns together.
func notTogether() [][][]int {
	var list [][][]int
	for rows := 1; rows <= 16; rows++ {
		for columns := 1; columns <= 16; columns++ {
			if rows+columns > 8 {
				list = append(list, alike(rows, columns, 0), gameOf(rows, columns, func(r int, c int) int { return (r*7+c*3)%19 - 9 }))
			}
		}
	}
	return list
}

// fairFromByHand lays the fair game of one together from its parts: rows, then columns, then the further choice.
func fairFromByHand(g [][]int) [][]int {
	rows, columns := len(g), len(g[0])
	var fair [][]int
	for _, row := range g {
		fair = append(fair, slices.Concat(allWeigh(rows, 0), row, []int{-1}))
	}
	for _, row := range turnedByHand(g) {
		fair = append(fair, slices.Concat(row, allWeigh(columns, 0), []int{1}))
	}
	return append(fair, slices.Concat(allWeigh(rows, 1), allWeigh(columns, -1), []int{0}))
}

// fairOnes are all fair games with which the promises are tested.
func fairOnes() [][][]int {
	list := drawnFair()
	for _, f := range forces() {
		list = append(list, soldierGameByHand(f))
	}
	for _, choices := range manyChoices {
		list = append(list, beatingByHand(choices))
	}
	for _, g := range fairOrigins() {
		list = append(list, fairFromByHand(g))
	}
	return list
}

// nothing is 0, as a fraction.
var nothing = impl.Frac{Up: 0, Down: 1}

func TestPromise49FairGames(t *testing.T) {
	for _, g := range fairOnes() {
		if !fairByHand(g) {
			t.Fatalf("%v is not fair", g)
		}
		if !impl.FairOk(g) {
			t.Fatalf("FairOk(%v) = false", g)
		}
	}
}

func TestPromise49GamesOfOneChoice(t *testing.T) {
	for n := -40; n <= 40; n++ {
		if fair := impl.FairOk([][]int{{n}}); fair != (n == 0) {
			t.Errorf("FairOk of the number %d alone is %v", n, fair)
		}
	}
}

func TestPromise49FairButForOneNumber(t *testing.T) {
	for _, g := range almostFair() {
		if fairByHand(g) || !impl.GameOk(g) {
			t.Fatalf("%v is fair, or no game", g)
		}
		if impl.FairOk(g) {
			t.Fatalf("FairOk(%v) = true", g)
		}
	}
}

func TestPromise49AllGames(t *testing.T) {
	fair := 0
	for _, g := range games() {
		if impl.FairOk(g) != fairByHand(g) {
			t.Fatalf("FairOk(%v) = %v", g, !fairByHand(g))
		}
		if impl.FairOk(g) != reflect.DeepEqual(g, impl.TurnedOf(g)) {
			t.Fatalf("FairOk(%v) = %v, but from the other side it is %v", g, impl.FairOk(g), impl.TurnedOf(g))
		}
		fair += oneOrNone(impl.FairOk(g))
	}
	if fair < 31 {
		t.Fatalf("only %d games are fair", fair)
	}
}

func TestPromise49MoreRowsOrMoreColumns(t *testing.T) {
	for rows := 1; rows <= 16; rows++ {
		for columns := 1; columns <= 16; columns++ {
			if g := alike(rows, columns, 0); impl.FairOk(g) != (rows == columns) {
				t.Errorf("FairOk(%v) = %v", g, rows != columns)
			}
		}
	}
	for _, g := range drawnFair() {
		if many := len(g); many < 16 {
			for _, other := range [][][]int{withRow(g, many, allWeigh(many, 0)), withColumn(g, many, allWeigh(many, 0)), withRow(g, 0, g[0]), withColumn(g, 0, columnByHand(g, 0))} {
				if impl.FairOk(other) {
					t.Errorf("FairOk(%v) = true", other)
				}
			}
		}
	}
}

func TestPromise49Examples(t *testing.T) {
	for _, c := range []struct {
		g    [][]int
		want bool
	}{
		{[][]int{{0}}, true},
		{[][]int{{1}}, false},
		{[][]int{{-9}}, false},
		{[][]int{{0, 0}, {0, 0}}, true},
		{[][]int{{0, 1}, {-1, 0}}, true},
		{[][]int{{0, -9}, {9, 0}}, true},
		{[][]int{{0, 1}, {1, 0}}, false},
		{[][]int{{1, -1}, {1, 0}}, false},
		{[][]int{{0, -1}, {1, 1}}, false},
		{[][]int{{1, 0}, {0, -1}}, false},
		{[][]int{{1, -1}, {-1, 1}}, false},
		{[][]int{{3, -1}, {-2, 4}}, false},
		{[][]int{{0, 1}}, false},
		{[][]int{{0}, {0}}, false},
		{[][]int{{0, 1}, {-1, 0}, {0, 0}}, false},
		{[][]int{{0, 1, 0}, {-1, 0, 0}}, false},
		{[][]int{{0, 1, -1}, {-1, 0, 1}, {1, -1, 0}}, true},
		{[][]int{{0, -2, 3}, {2, 0, -1}, {-3, 1, 0}}, true},
		{[][]int{{0, -2, 3}, {2, 0, -1}, {-3, -1, 0}}, false},
		{[][]int{{0, -2, 3}, {2, 0, -1}, {-3, 1, 2}}, false},
		{alike(16, 16, 0), true},
		{alike(16, 16, 1), false},
		{with(alike(16, 16, 0), 15, 15, 1), false},
		{with(alike(16, 16, 0), 0, 15, 1), false},
		{with(with(alike(16, 16, 0), 0, 15, 9), 15, 0, -9), true},
		{with(with(alike(16, 16, 0), 0, 15, 9), 15, 0, 9), false},
	} {
		if fair := impl.FairOk(c.g); fair != c.want {
			t.Errorf("FairOk(%v) = %v", c.g, fair)
		}
	}
}

func TestPromise49NoGames(t *testing.T) {
	for _, g := range append(noGames(), noFair()...) {
		if impl.FairOk(g) {
			t.Errorf("FairOk(%v) = true", g)
		}
	}
}

func TestPromise49FairGamesAreWorthNothing(t *testing.T) {
	solved, smaller := 0, 0
	for _, g := range fairOnes() {
		worth, ok := impl.WorthOf(g)
		if ok != (len(g) <= 4) || ok && worth != nothing {
			t.Fatalf("WorthOf(%v) = %v, %v", g, worth, ok)
		}
		solved += oneOrNone(ok)
		// Made smaller it is worth as much.
		worth, ok = impl.WorthOf(impl.SmallerOf(g))
		if ok && worth != nothing {
			t.Fatalf("%v, made smaller, is worth %v", g, worth)
		}
		smaller += oneOrNone(ok && len(g) > 4)
	}
	if solved < 100 || smaller < 100 {
		t.Fatalf("%d fair games are solved, and %d more if they are made smaller: too few to test them", solved, smaller)
	}
}

func TestPromise49WhatIsSafeIsWhatIsRisked(t *testing.T) {
	draw := rand.New(rand.NewSource(25))
	for _, g := range fairOnes() {
		for _, x := range mixtures(draw, len(g)) {
			safe, ok := impl.SafeOf(g, x)
			risk, told := impl.RiskOf(g, x)
			if !ok || !told || safe != impl.MinusOf(risk) || impl.LessOk(nothing, safe) {
				t.Fatalf("in the game %v, %v is safe for %v, %v as rows, and risks %v, %v as columns", g, x, safe, ok, risk, told)
			}
		}
	}
}

func TestPromise50AllWaysToPutSoldiers(t *testing.T) {
	for _, f := range forces() {
		list := impl.PlacingsOf(f.soldiers, f.fields)
		if want := placingsByHand(f); !reflect.DeepEqual(list, want) {
			t.Fatalf("PlacingsOf(%d, %d) = %v, not %v", f.soldiers, f.fields, list, want)
		}
		for i, row := range list {
			if len(row) != f.fields || total(row) != f.soldiers || slices.Min(row) < 0 {
				t.Errorf("PlacingsOf(%d, %d) = %v: %v has not all soldiers on all fields", f.soldiers, f.fields, list, row)
			}
			if i > 0 && slices.Compare(list[i-1], row) >= 0 {
				t.Errorf("PlacingsOf(%d, %d) = %v: %v is not before %v", f.soldiers, f.fields, list, list[i-1], row)
			}
		}
	}
}

func TestPromise50HowManyWays(t *testing.T) {
	for soldiers := 1; soldiers <= 4; soldiers++ {
		for at, want := range []int{1, soldiers + 1, (soldiers + 1) * (soldiers + 2) / 2} {
			if list := impl.PlacingsOf(soldiers, at+1); len(list) != want {
				t.Errorf("PlacingsOf(%d, %d) = %v, which are not %d", soldiers, at+1, list, want)
			}
		}
	}
}

func TestPromise50Examples(t *testing.T) {
	for _, c := range []struct {
		soldiers, fields int
		want             [][]int
	}{
		{1, 1, [][]int{{1}}},
		{2, 1, [][]int{{2}}},
		{3, 1, [][]int{{3}}},
		{4, 1, [][]int{{4}}},
		{1, 2, [][]int{{0, 1}, {1, 0}}},
		{2, 2, [][]int{{0, 2}, {1, 1}, {2, 0}}},
		{3, 2, [][]int{{0, 3}, {1, 2}, {2, 1}, {3, 0}}},
		{4, 2, [][]int{{0, 4}, {1, 3}, {2, 2}, {3, 1}, {4, 0}}},
		{1, 3, [][]int{{0, 0, 1}, {0, 1, 0}, {1, 0, 0}}},
		{2, 3, [][]int{{0, 0, 2}, {0, 1, 1}, {0, 2, 0}, {1, 0, 1}, {1, 1, 0}, {2, 0, 0}}},
		{3, 3, [][]int{{0, 0, 3}, {0, 1, 2}, {0, 2, 1}, {0, 3, 0}, {1, 0, 2}, {1, 1, 1}, {1, 2, 0}, {2, 0, 1}, {2, 1, 0}, {3, 0, 0}}},
		{4, 3, [][]int{{0, 0, 4}, {0, 1, 3}, {0, 2, 2}, {0, 3, 1}, {0, 4, 0}, {1, 0, 3}, {1, 1, 2}, {1, 2, 1}, {1, 3, 0}, {2, 0, 2}, {2, 1, 1}, {2, 2, 0}, {3, 0, 1}, {3, 1, 0}, {4, 0, 0}}},
	} {
		if list := impl.PlacingsOf(c.soldiers, c.fields); !reflect.DeepEqual(list, c.want) {
			t.Errorf("PlacingsOf(%d, %d) = %v, not %v", c.soldiers, c.fields, list, c.want)
		}
	}
}

func TestPromise50NoForces(t *testing.T) {
	for _, f := range noForces() {
		if list := impl.PlacingsOf(f.soldiers, f.fields); len(list) > 0 {
			t.Errorf("PlacingsOf(%d, %d) = %v", f.soldiers, f.fields, list)
		}
	}
}

func TestPromise51SoldiersAreAFairGame(t *testing.T) {
	for _, f := range forces() {
		g := impl.SoldierGame(f.soldiers, f.fields)
		if want := soldierGameByHand(f); !reflect.DeepEqual(g, want) {
			t.Fatalf("SoldierGame(%d, %d) = %v, not %v", f.soldiers, f.fields, g, want)
		}
		if !impl.GameOk(g) || !impl.FairOk(g) {
			t.Errorf("SoldierGame(%d, %d) = %v, which is not fair", f.soldiers, f.fields, g)
		}
		floor, _, ok := impl.FloorOf(g)
		roof, _, told := impl.RoofOf(g)
		if !ok || !told || floor > 0 || roof < 0 {
			t.Errorf("SoldierGame(%d, %d) = %v, of which the floor is %d, and the roof %d", f.soldiers, f.fields, g, floor, roof)
		}
	}
}

func TestPromise51OnOneFieldAndOnTwo(t *testing.T) {
	for soldiers := 1; soldiers <= 4; soldiers++ {
		if g := impl.SoldierGame(soldiers, 1); !reflect.DeepEqual(g, [][]int{{0}}) {
			t.Errorf("SoldierGame(%d, 1) = %v", soldiers, g)
		}
		if g := impl.SoldierGame(soldiers, 2); !reflect.DeepEqual(g, alike(soldiers+1, soldiers+1, 0)) {
			t.Errorf("SoldierGame(%d, 2) = %v", soldiers, g)
		}
	}
}

func TestPromise51Examples(t *testing.T) {
	if g := impl.SoldierGame(1, 3); !reflect.DeepEqual(g, alike(3, 3, 0)) {
		t.Errorf("SoldierGame(1, 3) = %v", g)
	}
	if g := impl.SoldierGame(2, 3); !reflect.DeepEqual(g, [][]int{
		{0, 0, 0, 0, -1, 0},
		{0, 0, 0, 0, 0, 1},
		{0, 0, 0, -1, 0, 0},
		{0, 0, 1, 0, 0, 0},
		{1, 0, 0, 0, 0, 0},
		{0, -1, 0, 0, 0, 0},
	}) {
		t.Errorf("SoldierGame(2, 3) = %v", g)
	}
	for _, c := range []struct{ soldiers, row, column, want int }{
		{3, 0, 5, -1}, // 0, 0, 3 and 1, 1, 1
		{3, 5, 0, 1},
		{3, 5, 3, 1},   // 1, 1, 1 and 0, 3, 0
		{3, 5, 1, 0},   // 1, 1, 1 and 0, 1, 2
		{3, 6, 0, 1},   // 1, 2, 0 and 0, 0, 3
		{4, 0, 10, -1}, // 0, 0, 4 and 2, 1, 1
		{4, 2, 9, 0},   // 0, 2, 2 and 2, 0, 2
		{4, 14, 6, -1}, // 4, 0, 0 and 1, 1, 2
		{4, 6, 14, 1},
		{4, 10, 12, 0}, // 2, 1, 1 and 3, 0, 1
		{4, 3, 8, 0},   // 0, 3, 1 and 1, 3, 0
	} {
		if g := impl.SoldierGame(c.soldiers, 3); len(g) <= c.row || g[c.row][c.column] != c.want {
			t.Errorf("SoldierGame(%d, 3) = %v, where %d, %d is not %d", c.soldiers, g, c.row, c.column, c.want)
		}
	}
}

func TestPromise51NoForces(t *testing.T) {
	for _, f := range noForces() {
		if g := impl.SoldierGame(f.soldiers, f.fields); len(g) > 0 {
			t.Errorf("SoldierGame(%d, %d) = %v", f.soldiers, f.fields, g)
		}
	}
}

func TestPromise52EachChoiceAgainstEachOther(t *testing.T) {
	for _, choices := range manyChoices {
		g := impl.BeatingGame(choices)
		if want := beatingByHand(choices); !impl.GameOk(g) || !impl.FairOk(g) || !reflect.DeepEqual(g, want) {
			t.Fatalf("BeatingGame(%d) = %v, not %v", choices, g, want)
		}
		for at, row := range g {
			beaten, beats := 0, 0
			for _, n := range row {
				beaten += oneOrNone(n == -1)
				beats += oneOrNone(n == 1)
			}
			if beats != choices/2 || beaten != choices/2 || row[at] != 0 {
				t.Errorf("BeatingGame(%d) = %v: the choice %d beats %d, and %d beat it", choices, g, at, beats, beaten)
			}
		}
	}
}

func TestPromise52AllChoicesAlikeAreASolution(t *testing.T) {
	for _, choices := range manyChoices {
		g := impl.BeatingGame(choices)
		for _, weight := range []int{1, 2, 100000} {
			all := allWeigh(choices, weight)
			if safe, ok := impl.SafeOf(g, all); !impl.SettledOk(g, all, all) || !ok || safe != nothing {
				t.Errorf("BeatingGame(%d): all alike is not settled, and is safe for %v, %v", choices, safe, ok)
			}
		}
		if list := impl.SaddlesOf(g); len(list) != oneOrNone(choices == 1) {
			t.Errorf("BeatingGame(%d) = %v has the saddles %v", choices, g, list)
		}
	}
	for _, choices := range manyChoices[:2] {
		testSolution(t, impl.BeatingGame(choices), nothing, allWeigh(choices, 1), allWeigh(choices, 1))
	}
}

func TestPromise52Examples(t *testing.T) {
	for _, c := range []struct {
		choices int
		want    [][]int
	}{
		{1, [][]int{{0}}},
		{3, [][]int{{0, 1, -1}, {-1, 0, 1}, {1, -1, 0}}},
		{5, [][]int{{0, 1, 1, -1, -1}, {-1, 0, 1, 1, -1}, {-1, -1, 0, 1, 1}, {1, -1, -1, 0, 1}, {1, 1, -1, -1, 0}}},
	} {
		if g := impl.BeatingGame(c.choices); !reflect.DeepEqual(g, c.want) {
			t.Errorf("BeatingGame(%d) = %v, not %v", c.choices, g, c.want)
		}
	}
	g := impl.BeatingGame(15)
	for row, want := range map[int][]int{
		0:  {0, 1, 1, 1, 1, 1, 1, 1, -1, -1, -1, -1, -1, -1, -1},
		7:  {-1, -1, -1, -1, -1, -1, -1, 0, 1, 1, 1, 1, 1, 1, 1},
		8:  {1, -1, -1, -1, -1, -1, -1, -1, 0, 1, 1, 1, 1, 1, 1},
		14: {1, 1, 1, 1, 1, 1, 1, -1, -1, -1, -1, -1, -1, -1, 0},
	} {
		if len(g) != 15 || !slices.Equal(g[row], want) {
			t.Errorf("BeatingGame(15) = %v, of which the row %d is not %v", g, row, want)
		}
	}
}

func TestPromise52NoChoices(t *testing.T) {
	for _, choices := range noChoices() {
		if g := impl.BeatingGame(choices); len(g) > 0 {
			t.Errorf("BeatingGame(%d) = %v", choices, g)
		}
	}
}

func TestPromise53EachGameIsInAFairOne(t *testing.T) {
	for _, g := range slices.Concat(fairOrigins(), aboveNothing()) {
		fair := impl.FairFrom(g)
		if want := fairFromByHand(g); !reflect.DeepEqual(fair, want) {
			t.Fatalf("FairFrom(%v) = %v, not %v", g, fair, want)
		}
		if !impl.GameOk(fair) || !impl.FairOk(fair) || len(fair) != len(g)+len(g[0])+1 {
			t.Fatalf("FairFrom(%v) = %v, which is not fair", g, fair)
		}
	}
}

// choicesByHand are the weights of all choices of a fair game, as parts of the whole and then with a common number below the line: those of rows, and of columns, divided by all of them, and what the game is worth.
func choicesByHand(s impl.Solution) []int {
	var list []*big.Rat
	for _, weights := range [][]int{s.Rows, s.Columns} {
		for _, weight := range weights {
			list = append(list, big.NewRat(int64(weight), int64(total(weights))))
		}
	}
	list = append(list, ratOf(s.Value))
	common := big.NewInt(1)
	for _, part := range list {
		common.Mul(common, new(big.Int).Div(part.Denom(), new(big.Int).GCD(nil, nil, common, part.Denom())))
	}
	return weightsOf(len(list), func(at int) int {
		return int(new(big.Rat).Mul(list[at], new(big.Rat).SetInt(common)).Num().Int64())
	})
}

func TestPromise53SolutionsAreSafe(t *testing.T) {
	for _, g := range aboveNothing() {
		s, ok := impl.SolveOf(g)
		if !ok {
			t.Fatalf("SolveOf(%v) = %v, %v", g, s, ok)
		}
		fair, x := impl.FairFrom(g), choicesByHand(s)
		if !impl.MixOk(x, len(fair)) || safeByHand(fair, x).Sign() != 0 {
			t.Fatalf("in FairFrom(%v) = %v, %v is no mixture, or is not safe for 0", g, fair, x)
		}
		if safe, ok := impl.SafeOf(fair, x); !ok || safe != nothing || !impl.SettledOk(fair, x, x) {
			t.Fatalf("in FairFrom(%v) = %v, %v is safe for %v, %v", g, fair, x, safe, ok)
		}
	}
}

func TestPromise53Examples(t *testing.T) {
	for _, c := range []struct{ g, want [][]int }{
		{[][]int{{2}}, [][]int{{0, 2, -1}, {-2, 0, 1}, {1, -1, 0}}},
		{[][]int{{0}}, [][]int{{0, 0, -1}, {0, 0, 1}, {1, -1, 0}}},
		{[][]int{{-9}}, [][]int{{0, -9, -1}, {9, 0, 1}, {1, -1, 0}}},
		{[][]int{{3, -4}}, [][]int{{0, 3, -4, -1}, {-3, 0, 0, 1}, {4, 0, 0, 1}, {1, -1, -1, 0}}},
		{[][]int{{3}, {-4}}, [][]int{{0, 0, 3, -1}, {0, 0, -4, -1}, {-3, 4, 0, 1}, {1, 1, -1, 0}}},
		{[][]int{{1, 2, 3}, {4, 5, 6}}, [][]int{
			{0, 0, 1, 2, 3, -1},
			{0, 0, 4, 5, 6, -1},
			{-1, -4, 0, 0, 0, 1},
			{-2, -5, 0, 0, 0, 1},
			{-3, -6, 0, 0, 0, 1},
			{1, 1, -1, -1, -1, 0},
		}},
		{[][]int{{1, 2, 3, 4, 5, 6, 7}}, [][]int{
			{0, 1, 2, 3, 4, 5, 6, 7, -1},
			{-1, 0, 0, 0, 0, 0, 0, 0, 1},
			{-2, 0, 0, 0, 0, 0, 0, 0, 1},
			{-3, 0, 0, 0, 0, 0, 0, 0, 1},
			{-4, 0, 0, 0, 0, 0, 0, 0, 1},
			{-5, 0, 0, 0, 0, 0, 0, 0, 1},
			{-6, 0, 0, 0, 0, 0, 0, 0, 1},
			{-7, 0, 0, 0, 0, 0, 0, 0, 1},
			{1, -1, -1, -1, -1, -1, -1, -1, 0},
		}},
	} {
		if fair := impl.FairFrom(c.g); !reflect.DeepEqual(fair, c.want) {
			t.Errorf("FairFrom(%v) = %v, not %v", c.g, fair, c.want)
		}
	}
	if fair := impl.FairFrom(alike(7, 1, 9)); len(fair) != 9 || fair[6][7] != 9 || fair[7][6] != -9 || fair[8][7] != -1 {
		t.Errorf("FairFrom of seven rows is %v", fair)
	}
}

func TestPromise53NoGamesAndGamesThatAreTooGreat(t *testing.T) {
	for _, g := range slices.Concat(noGames(), noFair(), notTogether()) {
		if fair := impl.FairFrom(g); len(fair) > 0 {
			t.Errorf("FairFrom(%v) = %v", g, fair)
		}
	}
}

func TestFairGamesAreNotWrittenTo(t *testing.T) {
	for _, g := range slices.Concat(fairOnes(), fairOrigins(), aboveNothing(), notTogether(), noGames(), noFair()) {
		given, whole := roomy(g)
		before := wholeOf(whole)
		impl.FairOk(given)
		impl.FairFrom(given)
		if after := wholeOf(whole); !reflect.DeepEqual(after, before) {
			t.Fatalf("%v is %v behind the calls", before, after)
		}
	}
}

func TestFairGamesShareNoMemory(t *testing.T) {
	for _, f := range forces() {
		testApart(t, nil, impl.PlacingsOf(f.soldiers, f.fields), impl.PlacingsOf(f.soldiers, f.fields))
		testApart(t, nil, impl.SoldierGame(f.soldiers, f.fields), impl.SoldierGame(f.soldiers, f.fields))
	}
	for _, choices := range manyChoices {
		testApart(t, nil, impl.BeatingGame(choices), impl.BeatingGame(choices))
	}
	for _, g := range slices.Concat(fairOrigins()[:200], aboveNothing()) {
		given, whole := roomy(g)
		testApart(t, whole, impl.FairFrom(given), impl.FairFrom(given))
	}
}

// TestFairGamesAreAsBefore overwrites what was returned, and asks again.
func TestFairGamesAreAsBefore(t *testing.T) {
	for range 2 {
		for _, f := range forces() {
			list, g := impl.PlacingsOf(f.soldiers, f.fields), impl.SoldierGame(f.soldiers, f.fields)
			if !reflect.DeepEqual(list, placingsByHand(f)) || !reflect.DeepEqual(g, soldierGameByHand(f)) {
				t.Fatalf("the ways to put %d soldiers on %d fields, or their game, have changed", f.soldiers, f.fields)
			}
			spoil(list)
			spoil(g)
		}
		for _, choices := range manyChoices {
			g := impl.BeatingGame(choices)
			if !reflect.DeepEqual(g, beatingByHand(choices)) {
				t.Fatalf("the game of %d choices has changed", choices)
			}
			spoil(g)
		}
		for _, g := range aboveNothing() {
			fair := impl.FairFrom(g)
			if !reflect.DeepEqual(fair, fairFromByHand(g)) {
				t.Fatalf("the fair game of %v has changed", g)
			}
			spoil(fair)
		}
	}
}
