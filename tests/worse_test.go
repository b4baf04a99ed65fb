package tests

import (
	"math"
	"math/rand"
	"reflect"
	"slices"
	"testing"

	"loop.example/hideandseek/impl"
)

// worseRowByHand counts the columns at which one row gets more than another one.
func worseRowByHand(g [][]int, a int, b int) bool {
	if a == b || min(a, b) < 0 || max(a, b) >= len(g) {
		return false
	}
	more := 0
	for c := range g[0] {
		if g[a][c] > g[b][c] {
			more++
		}
	}
	return more == 0
}

// worseColumnByHand counts the rows at which one column costs less than another one.
func worseColumnByHand(g [][]int, a int, b int) bool {
	if a == b || min(a, b) < 0 || max(a, b) >= len(g[0]) {
		return false
	}
	less := 0
	for _, row := range g {
		if row[a] < row[b] {
			less++
		}
	}
	return less == 0
}

// pickedByHand are the places in some rows and columns of a game.
func pickedByHand(g [][]int, rows []int, columns []int) [][]int {
	return gameOf(len(rows), len(columns), func(r int, c int) int { return g[rows[r]][columns[c]] })
}

// allBut are all numbers from 0 on, so many, but one.
func allBut(many int, but int) []int {
	list := []int{}
	for i := range many {
		if i != but {
			list = append(list, i)
		}
	}
	return list
}

// worseOnes are all rows, or all columns, that are worse than some other one, by a check of two of them.
func worseOnes(g [][]int, many int, worse func(g [][]int, a int, b int) bool) []int {
	list := []int{}
	for a := range many {
		if slices.ContainsFunc(allBut(many, a), func(b int) bool { return worse(g, a, b) }) {
			list = append(list, a)
		}
	}
	return list
}

// order tells which one of all worse rows and columns is taken away next: its place in one of both lists, and whether this is that of the columns. At least one is not empty.
type order func(rows []int, columns []int) (int, bool)

// inOrder is the order of the document.
func inOrder(rows []int, columns []int) (int, bool) {
	return 0, len(rows) == 0
}

// otherOrders are orders that are wrong.
var otherOrders = map[string]order{
	"the last row": func(rows []int, columns []int) (int, bool) {
		return max(len(rows)-1, 0), len(rows) == 0
	},
	"the last column, if there is no row": func(rows []int, columns []int) (int, bool) {
		if len(rows) > 0 {
			return 0, false
		}
		return len(columns) - 1, true
	},
	"the first column, if there is one,": func(rows []int, columns []int) (int, bool) {
		return 0, len(columns) > 0
	},
	"the first row or column, whichever is further to the front,": func(rows []int, columns []int) (int, bool) {
		return 0, len(rows) == 0 || len(columns) > 0 && columns[0] < rows[0]
	},
}

// smallerByHand takes what is worse away in an order, and counts how often.
func smallerByHand(g [][]int, next order) ([][]int, int) {
	rows, columns := allBut(len(g), -1), allBut(len(g[0]), -1)
	for taken := 0; ; taken++ {
		left := pickedByHand(g, rows, columns)
		worse := worseOnes(left, len(left), worseRowByHand)
		others := worseOnes(left, len(left[0]), worseColumnByHand)
		if len(worse)+len(others) == 0 {
			return left, taken
		}
		if at, of := next(worse, others); of {
			columns = slices.Delete(columns, others[at], others[at]+1)
		} else {
			rows = slices.Delete(rows, worse[at], worse[at]+1)
		}
	}
}

// withRow puts a row into a copy of a game.
func withRow(g [][]int, at int, row []int) [][]int {
	return slices.Insert(copyOf(g), at, row)
}

// withColumn puts a column into a copy of a game.
func withColumn(g [][]int, at int, column []int) [][]int {
	c := copyOf(g)
	for r := range c {
		c[r] = slices.Insert(c[r], at, column[r])
	}
	return c
}

// grown is a game to which rows and columns are added, each worse than one that is there, or alike, until it has so many.
func grown(draw *rand.Rand, g [][]int, rows int, columns int) [][]int {
	for len(g) < rows || len(g[0]) < columns {
		by := 1 + draw.Intn(3)
		if draw.Intn(2) == 0 && len(g) < rows {
			row := slices.Clone(g[draw.Intn(len(g))])
			for c := range row {
				row[c] = max(-9, row[c]-draw.Intn(by))
			}
			g = withRow(g, draw.Intn(len(g)+1), row)
		} else if len(g[0]) < columns {
			column := columnByHand(g, draw.Intn(len(g[0])))
			for r := range column {
				column[r] = min(9, column[r]+draw.Intn(by))
			}
			g = withColumn(g, draw.Intn(len(g[0])+1), column)
		}
	}
	return g
}

// grownGames are games of all sizes, most of which come down to smaller ones, by rows and columns in turn.
func grownGames() [][][]int {
	draw := rand.New(rand.NewSource(21))
	var list [][][]int
	for rows := 1; rows <= 16; rows++ {
		for columns := 1; columns <= 16; columns++ {
			for _, wide := range []int{1, 3, 9} {
				g := gameOf(1+draw.Intn(min(rows, 4)), 1+draw.Intn(min(columns, 4)), func(int, int) int { return draw.Intn(2*wide+1) - wide })
				list = append(list, grown(draw, g, rows, columns))
			}
		}
	}
	return list
}

// grownSolved are such games of up to four rows and columns.
func grownSolved() [][][]int {
	draw := rand.New(rand.NewSource(22))
	var list [][][]int
	for range 1500 {
		g := gameOf(1+draw.Intn(3), 1+draw.Intn(3), func(int, int) int { return draw.Intn(11) - 5 })
		list = append(list, grown(draw, g, len(g)+draw.Intn(5-len(g)), len(g[0])+draw.Intn(5-len(g[0]))))
	}
	return list
}

// firmGames are games without any row or column that is worse, of two to sixteen rows and as many columns.
func firmGames() [][][]int {
	var list [][][]int
	for many := 2; many <= 16; many++ {
		for _, n := range []int{-9, -1, 1, 9} {
			list = append(list, gameOf(many, many, func(r int, c int) int {
				if r == c {
					return n
				}
				return 0
			}))
		}
	}
	return list
}

// firmSaddles are such games with a saddle: all numbers of one row and of one column are 0, and among the others there are both signs in each row and column.
func firmSaddles() [][][]int {
	var list [][][]int
	for many := 3; many <= 16; many++ {
		for _, n := range []int{-9, -1, 1, 9} {
			for _, at := range []int{0, many / 2, many - 1} {
				list = append(list, gameOf(many, many, func(r int, c int) int {
					switch {
					case r == at || c == at:
						return 0
					case r == c:
						return n
					}
					return -n
				}))
			}
		}
	}
	return list
}

// worseGames are all games with which the promises of this chapter are tested, the small ones but for their great number.
func worseGames() [][][]int {
	return slices.Concat(grownGames(), grownSolved(), drawnGames(), saddleGames(), alikeGames(), drawnSolved(), fairSolved(), repeatedSolved(), saddledSolved(), firmGames(), firmSaddles())
}

// otherPlaces tell no row of so many.
func otherPlaces(many int) []int {
	return []int{-1, -2, -many, -many - 1, many, many + 1, 2 * many, 16, 17, 1 << 16, 1 << 30, math.MaxInt, math.MaxInt - 1, math.MinInt, math.MinInt + 1}
}

func TestPromise22RowsByHand(t *testing.T) {
	worse := 0
	for _, g := range append(smallGames(), worseGames()...) {
		for a := range g {
			for b := range g {
				got := impl.WorseRow(g, a, b)
				if got != worseRowByHand(g, a, b) {
					t.Fatalf("WorseRow(%v, %d, %d) = %v", g, a, b, got)
				}
				if got {
					worse++
				}
			}
		}
	}
	if worse < 10000 {
		t.Fatalf("only %d rows are worse than another one: too few to test them", worse)
	}
}

func TestPromise22WorseGoesOn(t *testing.T) {
	on, both := 0, 0
	for _, g := range append(smallGames(), worseGames()...) {
		worse := make([][]bool, len(g))
		for a := range g {
			for b := range g {
				worse[a] = append(worse[a], impl.WorseRow(g, a, b))
			}
		}
		for a := range g {
			if worse[a][a] {
				t.Fatalf("WorseRow(%v, %d, %d) = true, but it is no other row", g, a, a)
			}
			for b := range g {
				if alike := slices.Equal(g[a], g[b]); a != b && alike != (worse[a][b] && worse[b][a]) {
					t.Fatalf("%v: the rows %d and %d are alike: %v, worse: %v and %v", g, a, b, alike, worse[a][b], worse[b][a])
				} else if a != b && alike {
					both++
				}
				for c := range g {
					if a == c || !worse[a][b] || !worse[b][c] {
						continue
					}
					if !worse[a][c] {
						t.Fatalf("%v: the row %d is worse than %d, this one than %d, but not the first one", g, a, b, c)
					}
					on++
				}
			}
		}
	}
	if on < 10000 || both < 10000 {
		t.Fatalf("only %d times does it go on, only %d times are both worse: too few to test it", on, both)
	}
}

func TestPromise22Examples(t *testing.T) {
	g := [][]int{{1, 2, 0}, {2, 3, 1}, {3, 0, 2}, {2, 3, 1}, {2, 3, 2}}
	for _, c := range []struct {
		g    [][]int
		a, b int
		want bool
	}{
		{g, 0, 1, true},
		{g, 1, 0, false},
		{g, 0, 0, false},
		{g, 0, 2, false},
		{g, 2, 0, false},
		{g, 0, 3, true},
		{g, 1, 3, true},
		{g, 3, 1, true},
		{g, 3, 3, false},
		{g, 1, 4, true},
		{g, 4, 1, false},
		{g, 0, 4, true},
		{g, 2, 4, false},
		{[][]int{{0}}, 0, 0, false},
		{[][]int{{0}, {0}}, 0, 1, true},
		{[][]int{{0}, {0}}, 1, 0, true},
		{[][]int{{-9}, {9}}, 0, 1, true},
		{[][]int{{-9}, {9}}, 1, 0, false},
		{[][]int{{-1}, {-2}}, 0, 1, false},
		{[][]int{{-1}, {-2}}, 1, 0, true},
		{[][]int{{1, -1}, {-1, 1}}, 0, 1, false},
		{[][]int{{1, -1}, {-1, 1}}, 1, 0, false},
		{with(alike(16, 16, 0), 3, 15, 1), 3, 4, false},
		{with(alike(16, 16, 0), 3, 15, 1), 4, 3, true},
		{with(alike(16, 16, 0), 3, 0, -1), 3, 15, true},
		{with(alike(16, 16, 0), 3, 0, -1), 15, 3, false},
		{alike(16, 16, -9), 15, 0, true},
		{alike(1, 16, 4), 0, 0, false},
		{alike(1, 16, 4), 0, 1, false},
		{alike(1, 16, 4), 1, 0, false},
	} {
		if got := impl.WorseRow(c.g, c.a, c.b); got != c.want {
			t.Errorf("WorseRow(%v, %d, %d) = %v", c.g, c.a, c.b, got)
		}
	}
}

func TestPromises22And23NumbersThatTellNoRowOrColumn(t *testing.T) {
	for _, g := range [][][]int{{{0}}, {{1, 2, 3}}, {{1}, {2}, {3}}, {{1, 2, 3}, {4, 5, 6}}, alike(2, 2, 0), alike(3, 4, -9), alike(4, 3, 9), alike(16, 16, 1), alike(16, 1, 1), alike(1, 16, 1)} {
		for _, other := range otherPlaces(len(g)) {
			if other >= 0 && other < len(g) {
				continue
			}
			for _, a := range append(allBut(len(g), -1), otherPlaces(len(g))...) {
				if impl.WorseRow(g, a, other) || impl.WorseRow(g, other, a) {
					t.Errorf("WorseRow of %v, and %d and %d in any order, is true", g, a, other)
				}
			}
		}
		for _, other := range otherPlaces(len(g[0])) {
			if other >= 0 && other < len(g[0]) {
				continue
			}
			for _, a := range append(allBut(len(g[0]), -1), otherPlaces(len(g[0]))...) {
				if impl.WorseColumn(g, a, other) || impl.WorseColumn(g, other, a) {
					t.Errorf("WorseColumn of %v, and %d and %d in any order, is true", g, a, other)
				}
			}
		}
	}
}

func TestPromises22To26NoGames(t *testing.T) {
	places := []int{0, 1, 2, 3, 14, 15, 16, -1, math.MaxInt, math.MinInt}
	for _, g := range noGames() {
		for _, a := range places {
			for _, b := range places {
				if impl.WorseRow(g, a, b) || impl.WorseColumn(g, a, b) {
					t.Errorf("%v: WorseRow or WorseColumn of %d and %d is true", g, a, b)
				}
			}
			if left, ok := impl.WithoutRow(g, a); ok || len(left) > 0 {
				t.Errorf("WithoutRow(%v, %d) = %v, %v", g, a, left, ok)
			}
			if left, ok := impl.WithoutColumn(g, a); ok || len(left) > 0 {
				t.Errorf("WithoutColumn(%v, %d) = %v, %v", g, a, left, ok)
			}
		}
		if left := impl.SmallerOf(g); len(left) > 0 {
			t.Errorf("SmallerOf(%v) = %v", g, left)
		}
	}
}

func TestPromises24To26WhatWouldBeGames(t *testing.T) {
	// Without the row or the column these would be games.
	for _, g := range [][][]int{alike(17, 3, 0), append(alike(3, 3, 0), []int{10, 0, 0}), append(alike(3, 3, 0), []int{0, 0}), append(alike(3, 3, 0), nil)} {
		if left, ok := impl.WithoutRow(g, len(g)-1); ok || len(left) > 0 {
			t.Errorf("WithoutRow(%v, %d) = %v, %v", g, len(g)-1, left, ok)
		}
		if left := impl.SmallerOf(g); len(left) > 0 {
			t.Errorf("SmallerOf(%v) = %v", g, left)
		}
	}
	for _, g := range [][][]int{alike(3, 17, 0), {{0, 0, 10}, {0, 0, -10}}, {{0, 0, 0}, {0, 0}}} {
		if left, ok := impl.WithoutColumn(g, 2); ok || len(left) > 0 {
			t.Errorf("WithoutColumn(%v, 2) = %v, %v", g, left, ok)
		}
		if left := impl.SmallerOf(g); len(left) > 0 {
			t.Errorf("SmallerOf(%v) = %v", g, left)
		}
	}
}

func TestPromise23ColumnsAreRowsFromTheOtherSide(t *testing.T) {
	worse := 0
	for _, g := range append(smallGames(), worseGames()...) {
		turned := impl.TurnedOf(g)
		for a := -1; a <= len(g[0]); a++ {
			for b := -1; b <= len(g[0]); b++ {
				got := impl.WorseColumn(g, a, b)
				if row := impl.WorseRow(turned, a, b); got != row || got != worseColumnByHand(g, a, b) {
					t.Fatalf("WorseColumn(%v, %d, %d) = %v, but from the other side %v", g, a, b, got, row)
				}
				if got {
					worse++
				}
			}
		}
	}
	if worse < 10000 {
		t.Fatalf("only %d columns are worse than another one: too few to test them", worse)
	}
}

func TestPromise23Examples(t *testing.T) {
	g := [][]int{{1, 2, 0}, {2, 3, 1}, {3, 0, 2}}
	for _, c := range []struct {
		g    [][]int
		a, b int
		want bool
	}{
		{g, 0, 2, true},
		{g, 2, 0, false},
		{g, 1, 2, false},
		{g, 2, 1, false},
		{g, 0, 1, false},
		{g, 0, 0, false},
		{g, 1, 1, false},
		{[][]int{{0}}, 0, 0, false},
		{[][]int{{0, 0}}, 0, 1, true},
		{[][]int{{0, 0}}, 1, 0, true},
		{[][]int{{0, 0}}, 1, 1, false},
		{[][]int{{5, 3, 4}}, 0, 1, true},
		{[][]int{{5, 3, 4}}, 1, 0, false},
		{[][]int{{5, 3, 4}}, 2, 1, true},
		{[][]int{{5, 3, 4}}, 2, 0, false},
		{[][]int{{-9, 9}}, 0, 1, false},
		{[][]int{{-9, 9}}, 1, 0, true},
		{[][]int{{2, 2}, {1, 1}, {3, 3}}, 0, 1, true},
		{[][]int{{2, 2}, {1, 1}, {3, 3}}, 1, 0, true},
		{[][]int{{1, -1}, {-1, 1}}, 0, 1, false},
		{with(alike(16, 16, 0), 15, 3, 1), 3, 4, true},
		{with(alike(16, 16, 0), 15, 3, 1), 4, 3, false},
		{with(alike(16, 16, 0), 0, 3, -1), 3, 15, false},
		{with(alike(16, 16, 0), 0, 3, -1), 15, 3, true},
		{alike(16, 1, 4), 0, 0, false},
		{alike(16, 1, 4), 0, 1, false},
		{alike(16, 1, 4), 1, 0, false},
	} {
		if got := impl.WorseColumn(c.g, c.a, c.b); got != c.want {
			t.Errorf("WorseColumn(%v, %d, %d) = %v", c.g, c.a, c.b, got)
		}
	}
}

func TestPromise24RowsByHand(t *testing.T) {
	for _, g := range append(smallGames(), worseGames()...) {
		for a := range g {
			left, ok := impl.WithoutRow(g, a)
			if ok != (len(g) > 1) || !ok && len(left) > 0 {
				t.Fatalf("WithoutRow(%v, %d) = %v, %v", g, a, left, ok)
			}
			if want := pickedByHand(g, allBut(len(g), a), allBut(len(g[0]), -1)); ok && (!impl.GameOk(left) || !reflect.DeepEqual(left, want)) {
				t.Fatalf("WithoutRow(%v, %d) = %v, not %v", g, a, left, want)
			}
		}
	}
}

func TestPromise24WithoutARowThatIsWorseItIsWorthAsMuch(t *testing.T) {
	asMuch, less := 0, 0
	for _, g := range append(grownSolved(), solvedGames()...) {
		worth, _ := impl.WorthOf(g)
		for a := range g {
			left, ok := impl.WithoutRow(g, a)
			if !ok {
				continue
			}
			f, told := impl.WorthOf(left)
			if !told || impl.LessOk(worth, f) {
				t.Fatalf("%v is worth %v, but without the row %d %v, %v", g, worth, a, f, told)
			}
			for b := range g {
				if impl.WorseRow(g, a, b) && f != worth {
					t.Fatalf("%v is worth %v, but without the row %d, worse than %d, it is %v", g, worth, a, b, f)
				} else if impl.WorseRow(g, a, b) {
					asMuch++
				}
			}
			if f != worth {
				less++
			}
		}
	}
	if asMuch < 1000 || less < 1000 {
		t.Fatalf("only %d rows are worse, and without %d it is worth less: too few to test them", asMuch, less)
	}
}

func TestPromise24Examples(t *testing.T) {
	g := [][]int{{1, 2, 0}, {2, 3, 1}, {3, 0, 2}}
	for _, c := range []struct {
		g    [][]int
		a    int
		want [][]int
	}{
		{g, 0, [][]int{{2, 3, 1}, {3, 0, 2}}},
		{g, 1, [][]int{{1, 2, 0}, {3, 0, 2}}},
		{g, 2, [][]int{{1, 2, 0}, {2, 3, 1}}},
		{[][]int{{4}, {5}}, 0, [][]int{{5}}},
		{[][]int{{4}, {5}}, 1, [][]int{{4}}},
		{[][]int{{4, 4}, {4, 4}}, 1, [][]int{{4, 4}}},
		{[][]int{{1}}, 0, nil},
		{[][]int{{1, 2, 3}}, 0, nil},
		{alike(1, 16, 5), 0, nil},
		{alike(1, 16, 5), 1, nil},
		{with(alike(16, 16, 5), 0, 0, 6), 15, with(alike(15, 16, 5), 0, 0, 6)},
		{with(alike(16, 16, 5), 0, 0, 6), 0, alike(15, 16, 5)},
		{with(alike(16, 1, 5), 15, 0, 6), 3, with(alike(15, 1, 5), 14, 0, 6)},
	} {
		left, ok := impl.WithoutRow(c.g, c.a)
		if ok != (c.want != nil) || len(left) != len(c.want) || ok && !reflect.DeepEqual(left, c.want) {
			t.Errorf("WithoutRow(%v, %d) = %v, %v, not %v", c.g, c.a, left, ok, c.want)
		}
	}
}

func TestPromises24And25NumbersThatTellNoRowOrColumn(t *testing.T) {
	for _, g := range append(alikeGames(), [][]int{{1, 2, 3}, {4, 5, 6}}, [][]int{{1, 2}, {3, 4}, {5, 6}}, alike(2, 5, 0), alike(5, 2, 0)) {
		for _, other := range otherPlaces(len(g)) {
			if other >= 0 && other < len(g) {
				continue
			}
			if left, ok := impl.WithoutRow(g, other); ok || len(left) > 0 {
				t.Errorf("WithoutRow(%v, %d) = %v, %v", g, other, left, ok)
			}
		}
		for _, other := range otherPlaces(len(g[0])) {
			if other >= 0 && other < len(g[0]) {
				continue
			}
			if left, ok := impl.WithoutColumn(g, other); ok || len(left) > 0 {
				t.Errorf("WithoutColumn(%v, %d) = %v, %v", g, other, left, ok)
			}
		}
	}
}

func TestPromise25ColumnsByHand(t *testing.T) {
	for _, g := range append(smallGames(), worseGames()...) {
		for b := range g[0] {
			left, ok := impl.WithoutColumn(g, b)
			if ok != (len(g[0]) > 1) || !ok && len(left) > 0 {
				t.Fatalf("WithoutColumn(%v, %d) = %v, %v", g, b, left, ok)
			}
			if want := pickedByHand(g, allBut(len(g), -1), allBut(len(g[0]), b)); ok && (!impl.GameOk(left) || !reflect.DeepEqual(left, want)) {
				t.Fatalf("WithoutColumn(%v, %d) = %v, not %v", g, b, left, want)
			}
		}
	}
}

func TestPromise25WithoutAColumnThatIsWorseItIsWorthAsMuch(t *testing.T) {
	asMuch, more := 0, 0
	for _, g := range append(grownSolved(), solvedGames()...) {
		worth, _ := impl.WorthOf(g)
		for b := range g[0] {
			left, ok := impl.WithoutColumn(g, b)
			if !ok {
				continue
			}
			f, told := impl.WorthOf(left)
			if !told || impl.LessOk(f, worth) {
				t.Fatalf("%v is worth %v, but without the column %d %v, %v", g, worth, b, f, told)
			}
			for a := range g[0] {
				if impl.WorseColumn(g, b, a) && f != worth {
					t.Fatalf("%v is worth %v, but without the column %d, worse than %d, it is %v", g, worth, b, a, f)
				} else if impl.WorseColumn(g, b, a) {
					asMuch++
				}
			}
			if f != worth {
				more++
			}
		}
	}
	if asMuch < 1000 || more < 1000 {
		t.Fatalf("only %d columns are worse, and without %d it is worth more: too few to test them", asMuch, more)
	}
}

func TestPromise25Examples(t *testing.T) {
	g := [][]int{{1, 2, 0}, {2, 3, 1}, {3, 0, 2}}
	for _, c := range []struct {
		g    [][]int
		b    int
		want [][]int
	}{
		{g, 0, [][]int{{2, 0}, {3, 1}, {0, 2}}},
		{g, 1, [][]int{{1, 0}, {2, 1}, {3, 2}}},
		{g, 2, [][]int{{1, 2}, {2, 3}, {3, 0}}},
		{[][]int{{4, 5}}, 0, [][]int{{5}}},
		{[][]int{{4, 5}}, 1, [][]int{{4}}},
		{[][]int{{4, 4}, {4, 4}}, 1, [][]int{{4}, {4}}},
		{[][]int{{1}}, 0, nil},
		{[][]int{{1}, {2}, {3}}, 0, nil},
		{alike(16, 1, 5), 0, nil},
		{alike(16, 1, 5), 1, nil},
		{with(alike(16, 16, 5), 0, 0, 6), 15, with(alike(16, 15, 5), 0, 0, 6)},
		{with(alike(16, 16, 5), 0, 0, 6), 0, alike(16, 15, 5)},
		{with(alike(1, 16, 5), 0, 15, 6), 3, with(alike(1, 15, 5), 0, 14, 6)},
	} {
		left, ok := impl.WithoutColumn(c.g, c.b)
		if ok != (c.want != nil) || len(left) != len(c.want) || ok && !reflect.DeepEqual(left, c.want) {
			t.Errorf("WithoutColumn(%v, %d) = %v, %v, not %v", c.g, c.b, left, ok, c.want)
		}
	}
}

// testSmaller checks what promise 26 says of all games, solved or not.
func testSmaller(t *testing.T, g [][]int, left [][]int) {
	t.Helper()
	if !impl.GameOk(left) {
		t.Fatalf("SmallerOf(%v) = %v, which is no game", g, left)
	}
	if worse := worseOnes(left, len(left), impl.WorseRow); len(worse) > 0 {
		t.Fatalf("SmallerOf(%v) = %v, with the worse rows %v", g, left, worse)
	}
	if worse := worseOnes(left, len(left[0]), impl.WorseColumn); len(worse) > 0 {
		t.Fatalf("SmallerOf(%v) = %v, with the worse columns %v", g, left, worse)
	}
	if (len(g) == 1 || len(g[0]) == 1) && len(left)*len(left[0]) != 1 {
		t.Fatalf("SmallerOf(%v) = %v, which is more than one number", g, left)
	}
	if again := impl.SmallerOf(left); !reflect.DeepEqual(again, left) {
		t.Fatalf("SmallerOf(%v) = %v, but of this it is %v", g, left, again)
	}
}

func TestPromise26SmallerGames(t *testing.T) {
	longest, one, more, same := 0, 0, 0, 0
	for _, g := range append(smallGames(), worseGames()...) {
		left := impl.SmallerOf(g)
		want, taken := smallerByHand(g, inOrder)
		if !reflect.DeepEqual(left, want) {
			t.Fatalf("SmallerOf(%v) = %v, not %v", g, left, want)
		}
		testSmaller(t, g, left)
		longest = max(longest, taken)
		switch {
		case taken == 0:
			same++
		case len(left)*len(left[0]) == 1:
			one++
		default:
			more++
		}
	}
	if longest != 30 || one < 1000 || more < 1000 || same < 1000 {
		t.Fatalf("%d is the most that is taken away; %d games come down to one number, %d to more, and %d stay the same: too few to test them", longest, one, more, same)
	}
}

func TestPromise26SmallerGamesAreWorthAsMuch(t *testing.T) {
	smaller := 0
	for _, g := range append(grownSolved(), solvedGames()...) {
		worth, _ := impl.WorthOf(g)
		left := impl.SmallerOf(g)
		if f, ok := impl.WorthOf(left); !ok || f != worth {
			t.Fatalf("%v is worth %v, but SmallerOf it, %v, is worth %v, %v", g, worth, left, f, ok)
		}
		if len(left) < len(g) && len(left[0]) < len(g[0]) {
			smaller++
		}
	}
	if smaller < 1000 {
		t.Fatalf("only %d games have fewer rows and fewer columns then: too few to test them", smaller)
	}
}

func TestPromise26OneRowOrOneColumn(t *testing.T) {
	draw := rand.New(rand.NewSource(23))
	for many := 1; many <= 16; many++ {
		for _, wide := range []int{0, 1, 9} {
			row := gameOf(1, many, func(int, int) int { return draw.Intn(2*wide+1) - wide })
			if left := impl.SmallerOf(row); !reflect.DeepEqual(left, [][]int{{slices.Min(row[0])}}) {
				t.Errorf("SmallerOf(%v) = %v", row, left)
			}
			column := gameOf(many, 1, func(int, int) int { return draw.Intn(2*wide+1) - wide })
			if left := impl.SmallerOf(column); !reflect.DeepEqual(left, [][]int{{slices.Max(columnByHand(column, 0))}}) {
				t.Errorf("SmallerOf(%v) = %v", column, left)
			}
		}
	}
}

func TestPromise26WithASaddle(t *testing.T) {
	for _, g := range firmSaddles() {
		if len(impl.SaddlesOf(g)) != 1 {
			t.Fatalf("SaddlesOf(%v) = %v", g, impl.SaddlesOf(g))
		}
		if left := impl.SmallerOf(g); !reflect.DeepEqual(left, g) {
			t.Fatalf("SmallerOf(%v) = %v", g, left)
		}
	}
}

// TestPromise26Order holds the order of the document against others: each leads to something else often enough.
func TestPromise26Order(t *testing.T) {
	different := map[string]int{}
	for _, g := range append(smallGames(), grownGames()...) {
		left := impl.SmallerOf(g)
		if want, _ := smallerByHand(g, inOrder); !reflect.DeepEqual(left, want) {
			t.Fatalf("SmallerOf(%v) = %v, not %v", g, left, want)
		}
		for name, next := range otherOrders {
			if other, _ := smallerByHand(g, next); !reflect.DeepEqual(left, other) {
				different[name]++
			}
		}
	}
	for name := range otherOrders {
		if different[name] < 20 {
			t.Errorf("only %d games come down to others if %s is taken away: too few to test the order", different[name], name)
		}
	}
}

func TestPromise26Examples(t *testing.T) {
	for _, c := range []struct{ g, want [][]int }{
		{[][]int{{1, 2, 0}, {2, 3, 1}, {3, 0, 2}}, [][]int{{3, 1}, {0, 2}}},
		{[][]int{{5, 3, 4}}, [][]int{{3}}},
		{[][]int{{5}, {3}, {7}}, [][]int{{7}}},
		{[][]int{{0}}, [][]int{{0}}},
		{[][]int{{-9}}, [][]int{{-9}}},
		{[][]int{{9, 9}}, [][]int{{9}}},
		{[][]int{{9}, {9}}, [][]int{{9}}},
		{[][]int{{3, -1}, {-2, 4}}, [][]int{{3, -1}, {-2, 4}}},
		{[][]int{{3, 1, 4}, {2, 2, 2}}, [][]int{{2}}},
		{[][]int{{0, 0, 0}, {0, 1, -1}, {0, -1, 1}}, [][]int{{0, 0, 0}, {0, 1, -1}, {0, -1, 1}}},
		{alike(2, 2, 0), [][]int{{0}}},
		{alike(16, 16, -9), [][]int{{-9}}},
		{alike(1, 16, 9), [][]int{{9}}},
		{alike(16, 1, 9), [][]int{{9}}},
		// Rows and columns by turns: the row 0, the column 0, the row that was 2, the column that was 2.
		{[][]int{{4, 1, 0}, {4, 1, 2}, {5, 0, 1}}, [][]int{{1}}},
		// Of rows that are alike the first one goes, and so it does of columns.
		{[][]int{{0, -1}, {-1, 0}, {0, -1}}, [][]int{{-1, 0}, {0, -1}}},
		{[][]int{{1, -1}, {1, -1}, {0, 1}}, [][]int{{1, -1}, {0, 1}}},
		{[][]int{{0, -1, 0}, {-1, 0, -1}}, [][]int{{-1, 0}, {0, -1}}},
		{[][]int{{1, 0, 1}, {-1, 1, -1}}, [][]int{{0, 1}, {1, -1}}},
		// A row goes before a column that stands further to the front.
		{[][]int{{0, 1, -1}, {-1, 1, 0}, {0, -1, -1}}, [][]int{{0, -1}, {-1, 0}}},
		{[][]int{{0, 0, -1}, {-1, 1, 1}, {0, -1, -1}}, [][]int{{0, -1}, {-1, 1}}},
	} {
		if left := impl.SmallerOf(c.g); !reflect.DeepEqual(left, c.want) {
			t.Errorf("SmallerOf(%v) = %v, not %v", c.g, left, c.want)
		}
	}
}

func TestWorseGamesAreNotWrittenTo(t *testing.T) {
	for _, g := range append(worseGames(), noGames()...) {
		given, whole := roomy(g)
		before := wholeOf(whole)
		for a := -1; a <= 4; a++ {
			for b := -1; b <= 4; b++ {
				impl.WorseRow(given, a, b)
				impl.WorseColumn(given, a, b)
			}
			impl.WithoutRow(given, a)
			impl.WithoutColumn(given, a)
		}
		for _, last := range []int{len(g) - 1, 15} {
			impl.WithoutRow(given, last)
			impl.WithoutColumn(given, last)
		}
		impl.SmallerOf(given)
		if after := wholeOf(whole); !reflect.DeepEqual(after, before) {
			t.Fatalf("%v is %v behind the calls", before, after)
		}
	}
}

// testApart checks that two games made of a third one share no memory with each other or with this, the room behind their rows too.
func testApart(t *testing.T, whole [][]int, first [][]int, second [][]int) {
	t.Helper()
	if !apart(slices.Concat(whole, first, second)...) {
		t.Fatalf("%v, %v and %v share memory", whole, first, second)
	}
	clear(first[:cap(first)])
	if slices.ContainsFunc(slices.Concat(whole, second), func(row []int) bool { return row == nil }) {
		t.Fatalf("%v and %v share memory of their rows", whole, second)
	}
}

func TestSmallerGamesShareNoMemory(t *testing.T) {
	large := grownGames()
	for _, g := range slices.Concat(smallGames()[:400], drawnSolved(), alikeGames(), repeatedSolved(), firmGames(), large[:60], large[len(large)-60:]) {
		for _, at := range []int{0, 1, len(g) - 1, len(g[0]) - 1} {
			given, whole := roomy(g)
			first, ok := impl.WithoutRow(given, at)
			if second, _ := impl.WithoutRow(given, at); ok {
				testApart(t, whole, first, second)
			}
			given, whole = roomy(g)
			first, ok = impl.WithoutColumn(given, at)
			if second, _ := impl.WithoutColumn(given, at); ok {
				testApart(t, whole, first, second)
			}
		}
		given, whole := roomy(g)
		testApart(t, whole, impl.SmallerOf(given), impl.SmallerOf(given))
	}
}
