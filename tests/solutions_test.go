package tests

import (
	"math"
	"math/bits"
	"math/rand"
	"reflect"
	"slices"
	"testing"

	"loop.example/hideandseek/impl"
)

// ordersOf are all orders of so many places.
func ordersOf(many int) [][]int {
	if many == 0 {
		return [][]int{{}}
	}
	var list [][]int
	for _, order := range ordersOf(many - 1) {
		for at := range many {
			list = append(list, slices.Insert(slices.Clone(order), at, many-1))
		}
	}
	return list
}

// orders keeps the orders of few places, which are asked for very often.
var orders = [][][]int{ordersOf(0), ordersOf(1), ordersOf(2), ordersOf(3), ordersOf(4)}

// determinantByHand adds up one product for each order of the columns.
func determinantByHand(part [][]int) int {
	sum := 0
	for _, order := range orders[len(part)] {
		product := 1
		for i, column := range order {
			product *= part[i][column]
			for _, other := range order[:i] {
				if other > column {
					product = -product
				}
			}
		}
		sum += product
	}
	return sum
}

// bitsOf are the places of a set of at most 16 places, in ascending order.
func bitsOf(set int) []int {
	var list []int
	for at := range 16 {
		if set/(1<<at)%2 == 1 {
			list = append(list, at)
		}
	}
	return list
}

// why a part tells weights, or none.
const (
	told = iota
	toldTurned
	worthNothing
	rowBelow
	columnBelow
	bothBelow
	outcomes
)

// sumsByHand are the sums of cofactors of each row of a part: its determinant with ones in place of the row.
func sumsByHand(part [][]int) []int {
	return weightsOf(len(part), func(at int) int {
		c := copyOf(part)
		c[at] = allWeigh(len(part), 1)
		return determinantByHand(c)
	})
}

// lowestByHand divides weights by the greatest number that divides all of them.
func lowestByHand(x []int) []int {
	for by := slices.Max(x); by > 1; by-- {
		if !slices.ContainsFunc(x, func(weight int) bool { return weight%by != 0 }) {
			return weightsOf(len(x), func(at int) int { return x[at] / by })
		}
	}
	return x
}

// kernelByHand are the weights that a part tells, and why there are none.
func kernelByHand(g [][]int, rows int, columns int) ([]int, []int, int) {
	some, others := bitsOf(rows), bitsOf(columns)
	part := gameOf(len(some), len(others), func(r int, c int) int { return g[some[r]][others[c]] })
	turned := gameOf(len(others), len(some), func(r int, c int) int { return part[c][r] })
	up, down := sumsByHand(part), sumsByHand(turned)
	all := 0
	for _, n := range up {
		all += n
	}
	outcome := told
	if all == 0 {
		return nil, nil, worthNothing
	}
	x, y := make([]int, len(g)), make([]int, len(g[0]))
	for i := range up {
		x[some[i]], y[others[i]] = up[i], down[i]
		if all < 0 {
			x[some[i]], y[others[i]], outcome = -up[i], -down[i], toldTurned
		}
	}
	switch below := [2]bool{slices.Min(x) < 0, slices.Min(y) < 0}; below {
	case [2]bool{true, false}:
		return nil, nil, rowBelow
	case [2]bool{false, true}:
		return nil, nil, columnBelow
	case [2]bool{true, true}:
		return nil, nil, bothBelow
	}
	return lowestByHand(x), lowestByHand(y), outcome
}

// part tells some rows and some columns of a game.
type part struct{ rows, columns int }

// partsByHand are all parts of a game, in the order in which a solution is looked for.
func partsByHand(g [][]int) []part {
	var list []part
	for size := 1; size <= 4; size++ {
		for rows := 1; rows < 1<<len(g); rows++ {
			for columns := 1; columns < 1<<len(g[0]); columns++ {
				if len(bitsOf(rows)) == size && len(bitsOf(columns)) == size {
					list = append(list, part{rows, columns})
				}
			}
		}
	}
	return list
}

// solveByHand takes the weights of the first part that are settled, and counts the parts that are.
func solveByHand(g [][]int) (impl.Solution, int) {
	var first impl.Solution
	many := 0
	for _, p := range partsByHand(g) {
		x, y, outcome := kernelByHand(g, p.rows, p.columns)
		if outcome > toldTurned {
			continue
		}
		safe := safeByHand(g, x)
		if most, _ := riskByHand(g, y); safe.Cmp(most) != 0 {
			continue
		}
		if many == 0 {
			value, _ := fracOfRat(safe)
			first = impl.Solution{Value: value, Rows: x, Columns: y}
		}
		many++
	}
	return first, many
}

// drawnSolved are drawn games of up to four rows and columns, with few different numbers and with all of them.
func drawnSolved() [][][]int {
	draw := rand.New(rand.NewSource(9))
	var list [][][]int
	for rows := 1; rows <= 4; rows++ {
		for columns := 1; columns <= 4; columns++ {
			for _, wide := range []int{1, 2, 4, 9} {
				for range 40 {
					list = append(list, gameOf(rows, columns, func(int, int) int { return draw.Intn(2*wide+1) - wide }))
				}
			}
		}
	}
	return list
}

// fairSolved are drawn games that are themselves from the other side, rings of choices, and games of boxes: few of their smaller parts are settled.
func fairSolved() [][][]int {
	draw := rand.New(rand.NewSource(10))
	var list [][][]int
	for many := 1; many <= 4; many++ {
		for range 60 {
			g := alike(many, many, 0)
			for r := range many {
				for c := range r {
					g[r][c] = draw.Intn(19) - 9
					g[c][r] = -g[r][c]
				}
			}
			box := alike(many, many, 0)
			for r := range many {
				box[r][r] = 1 + draw.Intn(9)
			}
			list = append(list, g, box, turnedByHand(box))
		}
	}
	return list
}

// repeatedSolved are drawn games with rows or columns that are alike.
func repeatedSolved() [][][]int {
	draw := rand.New(rand.NewSource(11))
	var list [][][]int
	for range 300 {
		rows, columns := 1+draw.Intn(4), 1+draw.Intn(4)
		g := gameOf(rows, columns, func(int, int) int { return draw.Intn(19) - 9 })
		r, c := draw.Intn(rows), draw.Intn(columns)
		list = append(list,
			gameOf(rows, columns, func(row int, column int) int { return g[row/2][column] }),
			gameOf(rows, columns, func(row int, column int) int { return g[row][column/2] }),
			gameOf(rows, columns, func(row int, column int) int { return g[row/2][column/2] }),
			gameOf(rows, columns, func(row int, column int) int { return g[r][column] }),
			gameOf(rows, columns, func(row int, column int) int { return g[row][c] }))
	}
	return list
}

// alikeSolved are games of all sizes of which all numbers are the same.
func alikeSolved() [][][]int {
	var list [][][]int
	for rows := 1; rows <= 4; rows++ {
		for columns := 1; columns <= 4; columns++ {
			for _, n := range []int{-9, -1, 0, 1, 9} {
				list = append(list, alike(rows, columns, n))
			}
		}
	}
	return list
}

// saddledSolved are games of up to four rows and columns with a saddle at each place, and with several.
func saddledSolved() [][][]int {
	draw := rand.New(rand.NewSource(12))
	var list [][][]int
	for rows := 1; rows <= 4; rows++ {
		for columns := 1; columns <= 4; columns++ {
			for place := range rows * columns {
				for _, wide := range []int{1, 2, 9} {
					saddle := draw.Intn(2*wide+1) - wide
					list = append(list, gameOf(rows, columns, func(r int, c int) int {
						switch {
						case r == place/columns && c == place%columns:
							return saddle
						case r == place/columns:
							return saddle + draw.Intn(wide-saddle+1)
						case c == place%columns:
							return saddle - draw.Intn(saddle+wide+1)
						}
						return draw.Intn(2*wide+1) - wide
					}))
				}
			}
		}
	}
	return list
}

// solvedGames are all games with which the promises of this chapter are tested.
func solvedGames() [][][]int {
	return slices.Concat(smallGames(), drawnSolved(), fairSolved(), repeatedSolved(), alikeSolved(), saddledSolved())
}

// tooGreat are games, but with more rows or columns than are solved.
func tooGreat() [][][]int {
	var list [][][]int
	for _, size := range [][2]int{{5, 1}, {1, 5}, {5, 4}, {4, 5}, {5, 5}, {16, 1}, {1, 16}, {16, 4}, {4, 16}, {16, 16}} {
		list = append(list, alike(size[0], size[1], 0), alike(size[0], size[1], 9), gameOf(size[0], size[1], func(r int, c int) int { return (r*7+c*3)%19 - 9 }))
	}
	return list
}

func TestMaxSolved(t *testing.T) {
	if impl.MaxSolved != 4 {
		t.Fatal(impl.MaxSolved)
	}
}

func TestPromise18KernelsAreSumsOfCofactors(t *testing.T) {
	var seen [5][outcomes]int
	for _, g := range solvedGames() {
		for _, p := range partsByHand(g) {
			x, y, ok := impl.KernelOf(g, p.rows, p.columns)
			wantX, wantY, outcome := kernelByHand(g, p.rows, p.columns)
			if ok != (outcome <= toldTurned) || !slices.Equal(x, wantX) || !slices.Equal(y, wantY) {
				t.Fatalf("KernelOf(%v, %d, %d) = %v, %v, %v, not %v, %v", g, p.rows, p.columns, x, y, ok, wantX, wantY)
			}
			seen[len(bitsOf(p.rows))][outcome]++
		}
	}
	for size := 2; size <= 4; size++ {
		for outcome, many := range seen[size] {
			if many == 0 {
				t.Errorf("no part of %d rows has the outcome %d: too few to test it", size, outcome)
			}
		}
	}
}

func TestPromise18InAPartEachRowGetsAsMuchAsEachOtherOne(t *testing.T) {
	for _, g := range solvedGames() {
		for _, p := range partsByHand(g) {
			x, y, ok := impl.KernelOf(g, p.rows, p.columns)
			if !ok {
				continue
			}
			if !impl.MixOk(x, len(g)) || !impl.MixOk(y, len(g[0])) {
				t.Fatalf("KernelOf(%v, %d, %d) = %v, %v, which are no mixtures", g, p.rows, p.columns, x, y)
			}
			want, ok := impl.AverageOf(g, x, y)
			for _, row := range bitsOf(p.rows) {
				if f, told := impl.AverageOf(g, oneWeighs(len(g), row, 1), y); !ok || !told || f != want {
					t.Fatalf("KernelOf(%v, %d, %d) = %v, %v: the average is %v, but that of the row %d is %v", g, p.rows, p.columns, x, y, want, row, f)
				}
			}
			for _, column := range bitsOf(p.columns) {
				if f, told := impl.AverageOf(g, x, oneWeighs(len(g[0]), column, 1)); !told || f != want {
					t.Fatalf("KernelOf(%v, %d, %d) = %v, %v: the average is %v, but that of the column %d is %v", g, p.rows, p.columns, x, y, want, column, f)
				}
			}
		}
	}
}

func TestPromise18Examples(t *testing.T) {
	coins, steps := [][]int{{3, -1}, {-2, 4}}, [][]int{{3, 1, 4}, {2, 2, 2}}
	ring := [][]int{{0, 1, -1}, {-1, 0, 1}, {1, -1, 0}}
	places := [][]int{{0, 0, 2, 0}, {3, 0, 0, 0}, {0, 0, 0, 4}, {0, 6, 0, 0}}
	for _, c := range []struct {
		g             [][]int
		rows, columns int
		x, y          []int
	}{
		{coins, 3, 3, []int{3, 2}, []int{1, 1}},
		{coins, 1, 1, []int{1, 0}, []int{1, 0}},
		{coins, 1, 2, []int{1, 0}, []int{0, 1}},
		{coins, 2, 1, []int{0, 1}, []int{1, 0}},
		{coins, 2, 2, []int{0, 1}, []int{0, 1}},
		{[][]int{{-1, 3}, {4, -2}}, 3, 3, []int{3, 2}, []int{1, 1}},
		{[][]int{{1, 2}, {3, 4}}, 3, 3, nil, nil},
		{[][]int{{2, 1}, {1, 0}}, 3, 3, nil, nil},
		{[][]int{{2, 1}, {0, 0}}, 3, 3, nil, nil},
		{[][]int{{2, 0}, {1, 0}}, 3, 3, nil, nil},
		{[][]int{{4, 0}, {5, 4}}, 3, 3, nil, nil},
		{[][]int{{-4, 0}, {-5, -4}}, 3, 3, nil, nil},
		{[][]int{{2, 1}, {1, 1}}, 3, 3, []int{0, 1}, []int{0, 1}},
		{[][]int{{1, 1}, {1, 2}}, 3, 3, []int{1, 0}, []int{1, 0}},
		{[][]int{{1, 1}, {1, 0}}, 3, 3, []int{1, 0}, []int{1, 0}},
		{[][]int{{9, -9}, {-9, 9}}, 3, 3, []int{1, 1}, []int{1, 1}},
		{[][]int{{7}}, 1, 1, []int{1}, []int{1}},
		{[][]int{{0}}, 1, 1, []int{1}, []int{1}},
		{[][]int{{-9}}, 1, 1, []int{1}, []int{1}},
		{[][]int{{1, 2, 3, 4}}, 1, 8, []int{1}, []int{0, 0, 0, 1}},
		{[][]int{{1}, {2}, {3}, {4}}, 4, 1, []int{0, 0, 1, 0}, []int{1}},
		{steps, 3, 3, []int{0, 1}, []int{1, 1, 0}},
		{steps, 3, 5, nil, nil},
		{steps, 3, 6, []int{0, 1}, []int{0, 2, 1}},
		{steps, 2, 4, []int{0, 1}, []int{0, 0, 1}},
		{ring, 7, 7, []int{1, 1, 1}, []int{1, 1, 1}},
		{ring, 3, 3, nil, nil},
		{ring, 3, 6, []int{1, 2, 0}, []int{0, 2, 1}},
		{ring, 5, 5, nil, nil},
		{[][]int{{2, 0, 0}, {0, 3, 0}, {0, 0, 6}}, 7, 7, []int{3, 2, 1}, []int{3, 2, 1}},
		{places, 15, 15, []int{6, 4, 3, 2}, []int{4, 2, 6, 3}},
		{places, 11, 7, []int{3, 2, 0, 1}, []int{2, 1, 3, 0}},
		{places, 9, 6, []int{3, 0, 0, 1}, []int{0, 1, 3, 0}},
		{alike(4, 4, 0), 15, 15, nil, nil},
		{alike(4, 4, 9), 3, 12, nil, nil},
		{alike(4, 4, 9), 8, 4, []int{0, 0, 0, 1}, []int{0, 0, 1, 0}},
	} {
		x, y, ok := impl.KernelOf(c.g, c.rows, c.columns)
		if ok != (c.x != nil) || !slices.Equal(x, c.x) || !slices.Equal(y, c.y) {
			t.Errorf("KernelOf(%v, %d, %d) = %v, %v, %v, not %v, %v", c.g, c.rows, c.columns, x, y, ok, c.x, c.y)
		}
	}
}

// otherSets are numbers that tell no set of places of any game that is solved, though their low bits may.
func otherSets() []int {
	list := []int{math.MinInt, math.MinInt + 1, math.MinInt + 3, math.MaxInt, math.MaxInt - 1}
	for far := 4; far < bits.UintSize-1; far++ {
		list = append(list, 1<<far, 1<<far+1, 1<<far+3, -1<<far, -1<<far+1)
	}
	return list
}

func TestPromise18NumbersThatTellNoPart(t *testing.T) {
	sets := otherSets()
	for set := -40; set <= 40; set++ {
		sets = append(sets, set)
	}
	for rows := 1; rows <= 4; rows++ {
		for columns := 1; columns <= 4; columns++ {
			g := gameOf(rows, columns, func(r int, c int) int { return (r*7+c*5)%19 - 9 })
			tells := map[part]bool{}
			for _, p := range partsByHand(g) {
				_, _, outcome := kernelByHand(g, p.rows, p.columns)
				tells[p] = outcome <= toldTurned
			}
			for _, some := range sets {
				for _, others := range sets {
					if x, y, ok := impl.KernelOf(g, some, others); ok != tells[part{some, others}] || !ok && len(x)+len(y) > 0 {
						t.Fatalf("KernelOf(%v, %d, %d) = %v, %v, %v", g, some, others, x, y, ok)
					}
				}
			}
		}
	}
}

func TestPromises18To20WithoutGamesThatAreSolved(t *testing.T) {
	for _, g := range append(noGames(), tooGreat()...) {
		for _, p := range []part{{1, 1}, {2, 2}, {1, 2}, {3, 3}, {15, 15}, {16, 16}, {1, 16}, {16, 1}, {31, 31}, {0, 0}, {-1, -1}} {
			if x, y, ok := impl.KernelOf(g, p.rows, p.columns); ok || len(x) > 0 || len(y) > 0 {
				t.Errorf("KernelOf(%v, %d, %d) = %v, %v, %v", g, p.rows, p.columns, x, y, ok)
			}
		}
		if s, ok := impl.SolveOf(g); ok || s.Value != (impl.Frac{}) || len(s.Rows) > 0 || len(s.Columns) > 0 {
			t.Errorf("SolveOf(%v) = %v, %v", g, s, ok)
		}
		if f, ok := impl.WorthOf(g); ok || f != (impl.Frac{}) {
			t.Errorf("WorthOf(%v) = %v, %v", g, f, ok)
		}
	}
}

func TestPromise19EachGameHasASolution(t *testing.T) {
	several := 0
	for _, g := range solvedGames() {
		s, ok := impl.SolveOf(g)
		want, many := solveByHand(g)
		if !ok || !reflect.DeepEqual(s, want) {
			t.Fatalf("SolveOf(%v) = %v, %v, not %v", g, s, ok, want)
		}
		safe, _ := impl.SafeOf(g, s.Rows)
		risk, _ := impl.RiskOf(g, s.Columns)
		if !impl.SettledOk(g, s.Rows, s.Columns) || safe != s.Value || risk != s.Value {
			t.Fatalf("SolveOf(%v) = %v, but it is safe for %v and risks %v", g, s, safe, risk)
		}
		floor, _, _ := impl.FloorOf(g)
		roof, _, _ := impl.RoofOf(g)
		if impl.LessOk(s.Value, impl.Frac{Up: floor, Down: 1}) || impl.LessOk(impl.Frac{Up: roof, Down: 1}, s.Value) {
			t.Fatalf("SolveOf(%v) = %v, but the floor is %d and the roof %d", g, s, floor, roof)
		}
		if many > 1 {
			several++
		}
	}
	if several < 1000 {
		t.Fatalf("only %d games have several settled parts: too few to test their order", several)
	}
}

func TestPromise19Examples(t *testing.T) {
	for _, c := range []struct {
		g             [][]int
		value         impl.Frac
		rows, columns []int
	}{
		{[][]int{{3, -1}, {-2, 4}}, impl.Frac{Up: 1, Down: 1}, []int{3, 2}, []int{1, 1}},
		{[][]int{{-3, 2}, {1, -4}}, impl.Frac{Up: -1, Down: 1}, []int{1, 1}, []int{3, 2}},
		{[][]int{{3, 1, 4}, {2, 2, 2}}, impl.Frac{Up: 2, Down: 1}, []int{0, 1}, []int{0, 1, 0}},
		{[][]int{{0, 1, -1}, {-1, 0, 1}, {1, -1, 0}}, impl.Frac{Up: 0, Down: 1}, []int{1, 1, 1}, []int{1, 1, 1}},
		{[][]int{{2, 0, 0}, {0, 3, 0}, {0, 0, 6}}, impl.Frac{Up: 1, Down: 1}, []int{3, 2, 1}, []int{3, 2, 1}},
		{[][]int{{1, 0, 0, 0}, {0, 2, 0, 0}, {0, 0, 3, 0}, {0, 0, 0, 5}}, impl.Frac{Up: 30, Down: 61}, []int{30, 15, 10, 6}, []int{30, 15, 10, 6}},
		{[][]int{{9, -9}, {-9, 8}}, impl.Frac{Up: -9, Down: 35}, []int{17, 18}, []int{17, 18}},
		{[][]int{{0}}, impl.Frac{Up: 0, Down: 1}, []int{1}, []int{1}},
		{[][]int{{-9}}, impl.Frac{Up: -9, Down: 1}, []int{1}, []int{1}},
		{[][]int{{9}}, impl.Frac{Up: 9, Down: 1}, []int{1}, []int{1}},
		{[][]int{{4, 2, 3, 2}}, impl.Frac{Up: 2, Down: 1}, []int{1}, []int{0, 1, 0, 0}},
		{[][]int{{4}, {5}, {2}, {5}}, impl.Frac{Up: 5, Down: 1}, []int{0, 1, 0, 0}, []int{1}},
		{alike(4, 4, -9), impl.Frac{Up: -9, Down: 1}, []int{1, 0, 0, 0}, []int{1, 0, 0, 0}},
		{[][]int{{0, 9, 9, 9}, {5, 4, 9, 4}, {5, 4, 9, 4}, {0, 0, 0, 0}}, impl.Frac{Up: 9, Down: 2}, []int{1, 9, 0, 0}, []int{1, 1, 0, 0}},
	} {
		testSolution(t, c.g, c.value, c.rows, c.columns)
	}
}

// In these games several parts are settled, and tell different weights.
func TestPromise19TheFirstSettledPart(t *testing.T) {
	for _, c := range []struct {
		g             [][]int
		value         impl.Frac
		rows, columns []int
	}{
		// Several saddles.
		{[][]int{{4, 3, 9}, {5, 5, 9}, {5, 5, 8}}, impl.Frac{Up: 5, Down: 1}, []int{0, 1, 0}, []int{1, 0, 0}},
		{[][]int{{9, 1, 1}, {9, 2, 2}, {3, 2, 2}}, impl.Frac{Up: 2, Down: 1}, []int{0, 1, 0}, []int{0, 1, 0}},
		// One row ahead of two, though these are told by a lesser number.
		{[][]int{{1, -1, 0}, {-1, 1, 0}, {0, 0, 0}}, impl.Frac{Up: 0, Down: 1}, []int{0, 0, 1}, []int{0, 0, 1}},
		// Two rows ahead of three.
		{[][]int{{0, 1, -1, 0}, {-1, -1, 0, 1}, {0, -1, 0, -1}, {1, -1, 0, 0}}, impl.Frac{Up: -1, Down: 3}, []int{1, 0, 0, 2}, []int{0, 1, 2, 0}},
		{[][]int{{-1, -2, 0, -1}, {-1, -2, -1, 1}, {-1, 2, -2, -2}, {-1, 2, 2, -2}}, impl.Frac{Up: -1, Down: 1}, []int{0, 3, 0, 1}, []int{1, 0, 0, 0}},
		// The lesser number of the rows.
		{[][]int{{1, -1}, {-1, 1}, {0, 0}}, impl.Frac{Up: 0, Down: 1}, []int{1, 1, 0}, []int{1, 1}},
		{[][]int{{0, 0}, {1, -1}, {-1, 1}}, impl.Frac{Up: 0, Down: 1}, []int{1, 0, 0}, []int{1, 1}},
		// The lesser number of the columns.
		{[][]int{{1, -1, 0}, {-1, 1, 0}}, impl.Frac{Up: 0, Down: 1}, []int{1, 1}, []int{1, 1, 0}},
		{[][]int{{0, 1, -1}, {0, -1, 1}}, impl.Frac{Up: 0, Down: 1}, []int{1, 1}, []int{1, 0, 0}},
		// That of the rows ahead of that of the columns.
		{[][]int{{-1, -1, 2}, {-1, 2, -1}, {1, 1, 1}, {2, 0, -2}}, impl.Frac{Up: 1, Down: 1}, []int{0, 0, 1, 0}, []int{1, 0, 2}},
		{[][]int{{0, 0, 0}, {-1, -1, 1}, {-2, 1, 1}, {2, -2, -2}}, impl.Frac{Up: 0, Down: 1}, []int{1, 0, 0, 0}, []int{1, 0, 1}},
		{[][]int{{1, -1, 0, 1}, {0, 1, 0, -1}, {-1, 1, 0, 0}}, impl.Frac{Up: 0, Down: 1}, []int{1, 1, 0}, []int{0, 0, 1, 0}},
		{[][]int{{2, 2, -2, 2}, {1, 2, 0, -1}, {-1, 0, -1, 2}, {2, -1, 2, -1}}, impl.Frac{Up: 2, Down: 7}, []int{3, 0, 0, 4}, []int{0, 2, 3, 2}},
	} {
		if _, many := solveByHand(c.g); many < 2 {
			t.Errorf("%v has %d settled parts: too few to test their order", c.g, many)
		}
		testSolution(t, c.g, c.value, c.rows, c.columns)
	}
}

func testSolution(t *testing.T, g [][]int, value impl.Frac, rows []int, columns []int) {
	t.Helper()
	s, ok := impl.SolveOf(g)
	if !ok || s.Value != value || !slices.Equal(s.Rows, rows) || !slices.Equal(s.Columns, columns) {
		t.Errorf("SolveOf(%v) = %v, %v, not %v, %v, %v", g, s, ok, value, rows, columns)
	}
	if f, ok := impl.WorthOf(g); !ok || f != value {
		t.Errorf("WorthOf(%v) = %v, %v, not %v", g, f, ok, value)
	}
}

// backwards returns a game with its rows and columns in the order from the last one to the first one, either of them or both.
func backwards(g [][]int, rows bool, columns bool) [][]int {
	c := copyOf(g)
	if rows {
		slices.Reverse(c)
	}
	for _, row := range c {
		if columns {
			slices.Reverse(row)
		}
	}
	return c
}

func TestPromise20GamesAreWorthAsMuchFromBothSides(t *testing.T) {
	saddled := 0
	for _, g := range solvedGames() {
		worth, ok := impl.WorthOf(g)
		if want, _ := solveByHand(g); !ok || worth != want.Value || !impl.FracOk(worth) {
			t.Fatalf("WorthOf(%v) = %v, %v, not %v", g, worth, ok, want.Value)
		}
		if f, ok := impl.WorthOf(impl.TurnedOf(g)); !ok || f != impl.MinusOf(worth) {
			t.Fatalf("WorthOf(%v) = %v, but from the other side %v, %v", g, worth, f, ok)
		}
		for _, other := range [][][]int{backwards(g, true, true), backwards(g, true, false), backwards(g, false, true)} {
			if f, ok := impl.WorthOf(other); !ok || f != worth {
				t.Fatalf("WorthOf(%v) = %v, but of %v it is %v, %v", g, worth, other, f, ok)
			}
		}
		floor, _, _ := impl.FloorOf(g)
		roof, _, _ := impl.RoofOf(g)
		there := len(impl.SaddlesOf(g)) > 0
		if there != (floor == roof) || there && worth != (impl.Frac{Up: floor, Down: 1}) {
			t.Fatalf("WorthOf(%v) = %v, but the floor is %d and the roof %d", g, worth, floor, roof)
		}
		if there {
			saddled++
		}
	}
	if saddled < 1000 {
		t.Fatalf("only %d games have a saddle: too few to test them", saddled)
	}
}

func TestPromise20Examples(t *testing.T) {
	for _, c := range []struct {
		g    [][]int
		want impl.Frac
	}{
		{[][]int{{1, -1}, {-1, 1}}, impl.Frac{Up: 0, Down: 1}},
		{[][]int{{3, -1}, {-2, 4}}, impl.Frac{Up: 1, Down: 1}},
		{[][]int{{3, 1}, {-2, 4}}, impl.Frac{Up: 7, Down: 4}},
		{[][]int{{0, -2, 3}, {2, 0, -1}, {-3, 1, 0}}, impl.Frac{Up: 0, Down: 1}},
		{[][]int{{1, 0, 0}, {0, 1, 0}, {0, 0, 1}}, impl.Frac{Up: 1, Down: 3}},
		{[][]int{{-1, 0, 0, 0}, {0, -1, 0, 0}, {0, 0, -1, 0}, {0, 0, 0, -1}}, impl.Frac{Up: -1, Down: 4}},
		{[][]int{{1, 2, 3, 4}, {4, 3, 2, 1}}, impl.Frac{Up: 5, Down: 2}},
		{[][]int{{1, 4}, {2, 3}, {3, 2}, {4, 1}}, impl.Frac{Up: 5, Down: 2}},
		{[][]int{{9, 8, 7, 6}}, impl.Frac{Up: 6, Down: 1}},
		{[][]int{{9}, {8}, {7}, {6}}, impl.Frac{Up: 9, Down: 1}},
		{[][]int{{9, -9}, {-9, 9}}, impl.Frac{Up: 0, Down: 1}},
		{alike(3, 4, -2), impl.Frac{Up: -2, Down: 1}},
	} {
		if f, ok := impl.WorthOf(c.g); !ok || f != c.want {
			t.Errorf("WorthOf(%v) = %v, %v, not %v", c.g, f, ok, c.want)
		}
	}
}

// shiftedByHand adds a number at each place.
func shiftedByHand(g [][]int, by int) [][]int {
	return gameOf(len(g), len(g[0]), func(r int, c int) int { return g[r][c] + by })
}

func TestPromise21NumbersMoreAreWorthMore(t *testing.T) {
	none := 0
	for _, g := range slices.Concat(drawnSolved(), fairSolved(), repeatedSolved(), alikeSolved(), saddledSolved()) {
		worth, _ := impl.WorthOf(g)
		for by := -9; by <= 9; by++ {
			shifted, ok := impl.ShiftedOf(g, by)
			if !ok {
				none++
				continue
			}
			want, _ := impl.PlusOf(worth, impl.Frac{Up: by, Down: 1})
			if f, ok := impl.WorthOf(shifted); !ok || f != want {
				t.Fatalf("WorthOf(%v) = %v, but with %d more it is %v, %v", g, worth, by, f, ok)
			}
		}
	}
	if none < 1000 {
		t.Fatalf("only %d games go beyond their numbers: too few to test them", none)
	}
}

func TestPromise21TakenAwayAgain(t *testing.T) {
	for _, g := range games() {
		least, most := 9, -9
		for _, row := range g {
			least, most = min(least, slices.Min(row)), max(most, slices.Max(row))
		}
		for by := -30; by <= 30; by++ {
			want := by >= -9 && by <= 9 && least+by >= -9 && most+by <= 9
			shifted, ok := impl.ShiftedOf(g, by)
			if ok != want || !ok && len(shifted) > 0 {
				t.Fatalf("ShiftedOf(%v, %d) = %v, %v", g, by, shifted, ok)
			}
			if !ok {
				continue
			}
			if !impl.GameOk(shifted) || !reflect.DeepEqual(shifted, shiftedByHand(g, by)) {
				t.Fatalf("ShiftedOf(%v, %d) = %v", g, by, shifted)
			}
			if again, ok := impl.ShiftedOf(shifted, -by); !ok || !reflect.DeepEqual(again, g) {
				t.Fatalf("ShiftedOf(%v, %d) = %v, but with %d taken away again it is %v, %v", g, by, shifted, by, again, ok)
			}
		}
	}
}

func TestPromise21Examples(t *testing.T) {
	coins := [][]int{{3, -1}, {-2, 4}}
	for _, c := range []struct {
		g    [][]int
		by   int
		want [][]int
	}{
		{coins, 5, [][]int{{8, 4}, {3, 9}}},
		{coins, 6, nil},
		{coins, -7, [][]int{{-4, -8}, {-9, -3}}},
		{coins, -8, nil},
		{coins, 0, coins},
		{[][]int{{-9}}, 9, [][]int{{0}}},
		{[][]int{{9}}, -9, [][]int{{0}}},
		{[][]int{{-9}}, 10, nil},
		{[][]int{{-9}}, 18, nil},
		{[][]int{{9}}, -10, nil},
		{[][]int{{9}}, -18, nil},
		{[][]int{{0}}, 10, nil},
		{[][]int{{9}}, 1, nil},
		{[][]int{{-9}}, -1, nil},
		{[][]int{{0}}, math.MaxInt, nil},
		{[][]int{{0}}, math.MinInt, nil},
		{[][]int{{9}}, math.MaxInt, nil},
		{[][]int{{-9}}, math.MinInt, nil},
		{alike(16, 16, 3), 6, alike(16, 16, 9)},
		{alike(16, 16, 3), -9, alike(16, 16, -6)},
		{alike(5, 1, 3), -3, alike(5, 1, 0)},
		{with(alike(16, 16, 8), 15, 15, 9), 1, nil},
		{with(alike(16, 16, 8), 0, 0, 9), 1, nil},
		{with(alike(16, 16, -8), 15, 15, -9), -1, nil},
		{with(alike(16, 16, -8), 0, 0, -9), -1, nil},
	} {
		shifted, ok := impl.ShiftedOf(c.g, c.by)
		if ok != (c.want != nil) || len(shifted) != len(c.want) || ok && !reflect.DeepEqual(shifted, c.want) {
			t.Errorf("ShiftedOf(%v, %d) = %v, %v, not %v", c.g, c.by, shifted, ok, c.want)
		}
	}
}

func TestPromise21NoGames(t *testing.T) {
	for _, g := range noGames() {
		for _, by := range []int{0, 1, -1, 9, -9, 10, -10, math.MaxInt, math.MinInt} {
			if shifted, ok := impl.ShiftedOf(g, by); ok || len(shifted) > 0 {
				t.Errorf("ShiftedOf(%v, %d) = %v, %v", g, by, shifted, ok)
			}
		}
	}
	// With the number added these would be games.
	for _, g := range [][][]int{{{10}}, {{18, 9}}, {{9}, {10}}} {
		for by := -9; by < 0; by++ {
			if shifted, ok := impl.ShiftedOf(g, by); ok || len(shifted) > 0 {
				t.Errorf("ShiftedOf(%v, %d) = %v, %v", g, by, shifted, ok)
			}
			if shifted, ok := impl.ShiftedOf(turnedByHand(g), -by); ok || len(shifted) > 0 {
				t.Errorf("ShiftedOf(%v, %d) = %v, %v", turnedByHand(g), -by, shifted, ok)
			}
		}
	}
}

func TestSolvedGamesAreNotWrittenTo(t *testing.T) {
	for _, g := range slices.Concat(drawnSolved(), fairSolved(), alikeSolved(), saddledSolved(), tooGreat(), noGames()) {
		given, whole := roomy(g)
		before := wholeOf(whole)
		for _, p := range []part{{1, 1}, {2, 1}, {3, 3}, {5, 6}, {7, 7}, {11, 14}, {15, 15}, {0, 0}, {3, 1}, {16, 16}} {
			impl.KernelOf(given, p.rows, p.columns)
		}
		impl.SolveOf(given)
		impl.WorthOf(given)
		for _, by := range []int{-10, -9, -1, 0, 1, 9, 10} {
			impl.ShiftedOf(given, by)
		}
		if after := wholeOf(whole); !reflect.DeepEqual(after, before) {
			t.Fatalf("%v is %v behind the calls", before, after)
		}
	}
}

// apart reports whether lines have memory of their own, the room behind each too: if one is overwritten, the others stay as they were.
func apart(lines ...[]int) bool {
	for i, line := range lines {
		before := wholeOf(lines)
		for k := range line[:cap(line)] {
			line[:cap(line)][k] = 1000 + i
		}
		after := wholeOf(lines)
		before[i], after[i] = nil, nil
		if !reflect.DeepEqual(after, before) {
			return false
		}
	}
	return true
}

func TestSolutionsShareNoMemory(t *testing.T) {
	for _, g := range slices.Concat(fairSolved(), repeatedSolved(), alikeSolved(), saddledSolved()) {
		for _, p := range []part{{1, 1}, {2, 2}, {3, 3}, {6, 5}, {7, 7}, {15, 15}} {
			_, whole := roomy(g)
			x, y, _ := impl.KernelOf(whole[:len(g)], p.rows, p.columns)
			others, another, _ := impl.KernelOf(whole[:len(g)], p.rows, p.columns)
			if !apart(append(whole, x, y, others, another)...) {
				t.Fatalf("KernelOf(%v, %d, %d) shares memory", g, p.rows, p.columns)
			}
		}
		_, whole := roomy(g)
		first, _ := impl.SolveOf(whole[:len(g)])
		second, _ := impl.SolveOf(whole[:len(g)])
		if !apart(append(whole, first.Rows, first.Columns, second.Rows, second.Columns)...) {
			t.Fatalf("SolveOf(%v) shares memory", g)
		}
	}
}

func TestShiftedGamesShareNoMemory(t *testing.T) {
	for _, g := range slices.Concat(smallGames()[:200], repeatedSolved(), alikeGames()) {
		for _, by := range []int{-1, 0, 1} {
			given, whole := roomy(g)
			first, ok := impl.ShiftedOf(given, by)
			second, _ := impl.ShiftedOf(given, by)
			if !ok {
				continue
			}
			if !apart(slices.Concat(whole, first, second)...) {
				t.Fatalf("ShiftedOf(%v, %d) shares memory", g, by)
			}
			clear(first[:cap(first)])
			if slices.ContainsFunc(slices.Concat(whole, second), func(row []int) bool { return row == nil }) {
				t.Fatalf("ShiftedOf(%v, %d) shares memory of its rows", g, by)
			}
		}
	}
}
