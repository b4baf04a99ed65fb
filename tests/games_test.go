package tests

import (
	"math"
	"math/rand"
	"reflect"
	"slices"
	"testing"

	"loop.example/hideandseek/impl"
)

// gameOf returns a new game of so many rows and columns, with a number told for each place.
func gameOf(rows int, columns int, number func(row int, column int) int) [][]int {
	g := make([][]int, rows)
	for r := range g {
		g[r] = make([]int, columns)
		for c := range g[r] {
			g[r][c] = number(r, c)
		}
	}
	return g
}

// alike returns a game with the same number at each place.
func alike(rows int, columns int, n int) [][]int {
	return gameOf(rows, columns, func(int, int) int { return n })
}

// with returns a copy of a game with another number at one place.
func with(g [][]int, row int, column int, n int) [][]int {
	c := copyOf(g)
	c[row][column] = n
	return c
}

func copyOf(g [][]int) [][]int {
	c := make([][]int, len(g))
	for i, row := range g {
		c[i] = slices.Clone(row)
	}
	return c
}

// smallGames are all games of up to three rows and columns with numbers in -1..1.
func smallGames() [][][]int {
	var list [][][]int
	for rows := 1; rows <= 3; rows++ {
		for columns := 1; columns <= 3; columns++ {
			many := int(math.Pow(3, float64(rows*columns)) + 0.5)
			for code := 0; code < many; code++ {
				left := code
				list = append(list, gameOf(rows, columns, func(int, int) int {
					n := left%3 - 1
					left /= 3
					return n
				}))
			}
		}
	}
	return list
}

// drawnGames are games of all sizes: some with few different numbers, so that many are equally good, and some with all of them.
func drawnGames() [][][]int {
	draw := rand.New(rand.NewSource(2))
	var list [][][]int
	for rows := 1; rows <= 16; rows++ {
		for columns := 1; columns <= 16; columns++ {
			for _, wide := range []int{1, 2, 4, 9} {
				list = append(list, gameOf(rows, columns, func(int, int) int { return draw.Intn(2*wide+1) - wide }))
			}
		}
	}
	return list
}

// saddleGames are drawn games with a saddle at some place, found among larger and smaller numbers.
func saddleGames() [][][]int {
	draw := rand.New(rand.NewSource(3))
	var list [][][]int
	for _, size := range [][2]int{{1, 1}, {1, 16}, {16, 1}, {2, 2}, {3, 5}, {5, 3}, {16, 16}} {
		for range 40 {
			row, column, saddle := draw.Intn(size[0]), draw.Intn(size[1]), draw.Intn(19)-9
			list = append(list, gameOf(size[0], size[1], func(r int, c int) int {
				switch {
				case r == row && c == column:
					return saddle
				case r == row:
					return saddle + draw.Intn(10-saddle)
				case c == column:
					return saddle - draw.Intn(saddle+10)
				}
				return draw.Intn(19) - 9
			}))
		}
	}
	return list
}

// alikeGames are games of which all numbers are the same, of the least and the greatest sizes.
func alikeGames() [][][]int {
	var list [][][]int
	for _, rows := range []int{1, 2, 15, 16} {
		for _, columns := range []int{1, 2, 15, 16} {
			for _, n := range []int{-9, -1, 0, 1, 9} {
				list = append(list, alike(rows, columns, n))
			}
		}
	}
	return list
}

// games are all games with which the promises are tested.
func games() [][][]int {
	return slices.Concat(smallGames(), drawnGames(), saddleGames(), alikeGames())
}

// noGames break one rule each, so that a check that is left out is seen.
func noGames() [][][]int {
	list := [][][]int{
		nil,
		{},
		{nil},
		{{}},
		{{}, {}},
		{{1}, {}},
		{{}, {1}},
		{{1, 2}, {3}},
		{{1}, {2, 3}},
		{{1, 2}, {3, 4}, {5}},
		{{1, 2}, nil, {5, 6}},
		alike(17, 1, 0),
		alike(1, 17, 0),
		alike(17, 17, 0),
		alike(16, 17, 0),
		alike(17, 16, 0),
		alike(16, 0, 0),
		alike(17, 0, 0),
		alike(1000, 1, 0),
		alike(1, 1000, 0),
		append(alike(15, 16, 0), make([]int, 15)),
		append(alike(15, 16, 0), make([]int, 17)),
		append(alike(16, 16, 0), nil),
	}
	for _, n := range []int{10, -10, 11, 100, -100, 256, math.MaxInt, math.MinInt, math.MinInt + 1} {
		list = append(list, [][]int{{n}}, alike(2, 3, n), alike(16, 16, n))
		for _, size := range [][2]int{{1, 4}, {4, 1}, {3, 4}} {
			for r := range size[0] {
				for c := range size[1] {
					list = append(list, with(alike(size[0], size[1], 0), r, c, n))
				}
			}
		}
		list = append(list, with(alike(16, 16, 9), 15, 15, n), with(alike(16, 16, -9), 0, 0, n))
	}
	return list
}

// floorByHand looks for the floor by its words alone: at each number from the greatest one down, the first row that has none below it.
func floorByHand(g [][]int) (int, int) {
	for n := 9; n >= -9; n-- {
		for r, row := range g {
			if !slices.ContainsFunc(row, func(m int) bool { return m < n }) {
				return n, r
			}
		}
	}
	return 0, -1
}

// roofByHand looks for the roof in the same way: at each number from the least one up, the first column that has none above it.
func roofByHand(g [][]int) (int, int) {
	for n := -9; n <= 9; n++ {
		for c := range g[0] {
			if !slices.ContainsFunc(g, func(row []int) bool { return row[c] > n }) {
				return n, c
			}
		}
	}
	return 0, -1
}

// saddleByHand holds the number at one place against all of its row and its column.
func saddleByHand(g [][]int, row int, column int) bool {
	n := g[row][column]
	return !slices.ContainsFunc(g[row], func(m int) bool { return m < n }) &&
		!slices.ContainsFunc(g, func(other []int) bool { return other[column] > n })
}

func saddlesByHand(g [][]int) []int {
	list := []int{}
	for place := range len(g) * len(g[0]) {
		if saddleByHand(g, place/len(g[0]), place%len(g[0])) {
			list = append(list, place)
		}
	}
	return list
}

func turnedByHand(g [][]int) [][]int {
	return gameOf(len(g[0]), len(g), func(r int, c int) int { return -g[c][r] })
}

func TestMaxSide(t *testing.T) {
	if impl.MaxSide != 16 {
		t.Fatal(impl.MaxSide)
	}
}

func TestPromise7OneNumberIsAGame(t *testing.T) {
	for n := -40; n <= 40; n++ {
		if got := impl.GameOk([][]int{{n}}); got != (n >= -9 && n <= 9) {
			t.Errorf("GameOk of the number %d alone is %v", n, got)
		}
	}
	for _, g := range games() {
		if !impl.GameOk(g) {
			t.Fatalf("GameOk(%v) = false", g)
		}
		for rest := g[:len(g)-1]; len(rest) > 0; rest = rest[:len(rest)-1] {
			if !impl.GameOk(rest) {
				t.Fatalf("GameOk(%v) = false", rest)
			}
		}
	}
}

func TestPromise7Sizes(t *testing.T) {
	for rows := 0; rows <= 20; rows++ {
		for columns := 0; columns <= 20; columns++ {
			want := rows >= 1 && rows <= 16 && columns >= 1 && columns <= 16
			if got := impl.GameOk(alike(rows, columns, 9)); got != want {
				t.Errorf("GameOk of %d rows and %d columns is %v", rows, columns, got)
			}
		}
	}
}

func TestPromise7RowsOfDifferentLengths(t *testing.T) {
	for rows := 2; rows <= 16; rows++ {
		for row := range rows {
			for _, length := range []int{0, 1, 3, 4, 6, 16, 17} {
				g := alike(rows, 5, 0)
				g[row] = make([]int, length)
				if impl.GameOk(g) {
					t.Errorf("GameOk of %d rows of 5 numbers, but %d in row %d", rows, length, row)
				}
			}
		}
	}
}

func TestPromise7NoGames(t *testing.T) {
	for _, g := range noGames() {
		if impl.GameOk(g) {
			t.Errorf("GameOk(%v) = true", g)
		}
	}
}

func TestPromise8TheFloorIsNotAboveTheRoof(t *testing.T) {
	for _, g := range games() {
		floor, row, ok := impl.FloorOf(g)
		roof, _, told := impl.RoofOf(g)
		if !ok || !told || floor > roof {
			t.Fatalf("%v: the floor is %d, %v and the roof %d, %v", g, floor, ok, roof, told)
		}
		if row < 0 || row >= len(g) || slices.Min(g[row]) < floor {
			t.Fatalf("%v: the floor is %d at the row %d", g, floor, row)
		}
		for _, numbers := range g {
			if slices.Min(numbers) > floor {
				t.Fatalf("%v: the floor is %d, but all of %v are above it", g, floor, numbers)
			}
		}
		if wantFloor, wantRow := floorByHand(g); floor != wantFloor || row != wantRow {
			t.Fatalf("FloorOf(%v) = %d, %d, not %d, %d", g, floor, row, wantFloor, wantRow)
		}
	}
}

func TestPromise8Examples(t *testing.T) {
	for _, c := range []struct {
		g        [][]int
		want, at int
	}{
		{[][]int{{3, 1, 4}, {2, 2, 2}}, 2, 1},
		{[][]int{{3, -1}, {-2, 4}}, -1, 0},
		{[][]int{{0}}, 0, 0},
		{[][]int{{-9}}, -9, 0},
		{[][]int{{9}}, 9, 0},
		{[][]int{{4, 2, 3, 2}}, 2, 0},
		{[][]int{{4}, {2}, {5}, {5}}, 5, 2},
		{[][]int{{-4}, {-2}, {-5}, {-2}}, -2, 1},
		{[][]int{{1, 0}, {0, 1}}, 0, 0},
		{[][]int{{-9, 9}, {9, -9}, {-8, -8}}, -8, 2},
		{alike(1, 16, 7), 7, 0},
		{alike(16, 1, -7), -7, 0},
		{alike(16, 16, -9), -9, 0},
		{alike(16, 16, 9), 9, 0},
		{gameOf(16, 16, func(r int, c int) int { return (r + c) % 10 }), 0, 0},
		{gameOf(16, 16, func(r int, c int) int { return min(r, c, 9) - 9 }), -9, 0},
		{gameOf(16, 16, func(r int, c int) int { return r/2 + c/8 }), 7, 14},
	} {
		if n, at, ok := impl.FloorOf(c.g); !ok || n != c.want || at != c.at {
			t.Errorf("FloorOf(%v) = %d, %d, %v", c.g, n, at, ok)
		}
	}
}

func TestPromise8NoGames(t *testing.T) {
	for _, g := range noGames() {
		if n, at, ok := impl.FloorOf(g); ok || n != 0 || at != -1 {
			t.Errorf("FloorOf(%v) = %d, %d, %v", g, n, at, ok)
		}
	}
}

func TestPromise9RoofsAreFloorsFromTheOtherSide(t *testing.T) {
	for _, g := range games() {
		roof, column, ok := impl.RoofOf(g)
		floor, row, told := impl.FloorOf(impl.TurnedOf(g))
		if !ok || !told || roof != -floor || column != row {
			t.Fatalf("%v: the roof is %d, %d, %v, but the floor from the other side %d, %d, %v", g, roof, column, ok, floor, row, told)
		}
		if wantRoof, wantColumn := roofByHand(g); roof != wantRoof || column != wantColumn {
			t.Fatalf("RoofOf(%v) = %d, %d, not %d, %d", g, roof, column, wantRoof, wantColumn)
		}
	}
}

func TestPromise9Examples(t *testing.T) {
	for _, c := range []struct {
		g        [][]int
		want, at int
	}{
		{[][]int{{3, 1, 4}, {2, 2, 2}}, 2, 1},
		{[][]int{{3, -1}, {-2, 4}}, 3, 0},
		{[][]int{{0}}, 0, 0},
		{[][]int{{-9}}, -9, 0},
		{[][]int{{9}}, 9, 0},
		{[][]int{{4, 2, 3, 2}}, 2, 1},
		{[][]int{{-1, -4, -2, -4}}, -4, 1},
		{[][]int{{4}, {2}, {5}, {5}}, 5, 0},
		{[][]int{{1, 0}, {0, 1}}, 1, 0},
		{[][]int{{-9, 9, 8}, {9, -9, 8}}, 8, 2},
		{alike(1, 16, 7), 7, 0},
		{alike(16, 1, -7), -7, 0},
		{alike(16, 16, -9), -9, 0},
		{alike(16, 16, 9), 9, 0},
		{gameOf(16, 16, func(r int, c int) int { return r/8 - c/2 }), -6, 14},
	} {
		if n, at, ok := impl.RoofOf(c.g); !ok || n != c.want || at != c.at {
			t.Errorf("RoofOf(%v) = %d, %d, %v", c.g, n, at, ok)
		}
	}
}

func TestPromise9NoGames(t *testing.T) {
	for _, g := range noGames() {
		if n, at, ok := impl.RoofOf(g); ok || n != 0 || at != -1 {
			t.Errorf("RoofOf(%v) = %d, %d, %v", g, n, at, ok)
		}
	}
}

func TestPromise10FloorsAndRoofsMeetInSaddles(t *testing.T) {
	for _, g := range games() {
		floor, row, _ := impl.FloorOf(g)
		roof, column, _ := impl.RoofOf(g)
		list := impl.SaddlesOf(g)
		if want := saddlesByHand(g); !slices.Equal(list, want) {
			t.Fatalf("SaddlesOf(%v) = %v, not %v", g, list, want)
		}
		if (len(list) > 0) != (floor == roof) {
			t.Fatalf("%v: the floor is %d, the roof %d, and the saddles are %v", g, floor, roof, list)
		}
		if len(list) > 0 && list[0] != row*len(g[0])+column {
			t.Fatalf("%v: the first saddle is %d, but the floor in row %d, and the roof in column %d", g, list[0], row, column)
		}
		for _, place := range list {
			if n := g[place/len(g[0])][place%len(g[0])]; n != floor {
				t.Fatalf("%v: the floor is %d, but a saddle %d", g, floor, n)
			}
		}
	}
}

func TestPromise10Examples(t *testing.T) {
	var all []int
	for place := range 256 {
		all = append(all, place)
	}
	for _, c := range []struct {
		g    [][]int
		want []int
	}{
		{[][]int{{3, 1, 4}, {2, 2, 2}}, []int{4}},
		{[][]int{{1, 0}, {0, 1}}, nil},
		{[][]int{{3, -1}, {-2, 4}}, nil},
		{[][]int{{-5}}, []int{0}},
		{[][]int{{4, 2, 3, 2}}, []int{1, 3}},
		{[][]int{{4}, {5}, {2}, {5}}, []int{1, 3}},
		{[][]int{{2, 1, 1}, {3, 1, 1}}, []int{1, 2, 4, 5}},
		{[][]int{{5, 5, 9}, {4, 3, 9}, {5, 5, 8}}, []int{0, 1, 6, 7}},
		{[][]int{{0, 9}, {-9, 0}}, []int{0}},
		{alike(1, 3, 0), []int{0, 1, 2}},
		{alike(3, 1, 9), []int{0, 1, 2}},
		{alike(2, 3, -9), []int{0, 1, 2, 3, 4, 5}},
		{alike(16, 16, 4), all},
		{with(alike(16, 16, 0), 15, 15, -1), all[:240]},
		{gameOf(16, 16, func(r int, c int) int { return r/2 - c/2 }), []int{14*16 + 14, 14*16 + 15, 15*16 + 14, 15*16 + 15}},
	} {
		if list := impl.SaddlesOf(c.g); c.want != nil && !slices.Equal(list, c.want) || c.want == nil && len(list) > 0 {
			t.Errorf("SaddlesOf(%v) = %v, not %v", c.g, list, c.want)
		}
	}
}

func TestPromise10NoGames(t *testing.T) {
	for _, g := range noGames() {
		if list := impl.SaddlesOf(g); len(list) != 0 {
			t.Errorf("SaddlesOf(%v) = %v", g, list)
		}
	}
}

func TestPromise11TurnedOverTwiceItIsAsBefore(t *testing.T) {
	for _, g := range games() {
		turned := impl.TurnedOf(g)
		if want := turnedByHand(g); !reflect.DeepEqual(turned, want) {
			t.Fatalf("TurnedOf(%v) = %v, not %v", g, turned, want)
		}
		if !impl.GameOk(turned) {
			t.Fatalf("TurnedOf(%v) = %v, which is no game", g, turned)
		}
		if again := impl.TurnedOf(turned); !reflect.DeepEqual(again, g) {
			t.Fatalf("TurnedOf twice of %v is %v", g, again)
		}
	}
}

func TestPromise11Examples(t *testing.T) {
	for _, c := range []struct{ g, want [][]int }{
		{[][]int{{3, 1, 4}, {2, 2, 2}}, [][]int{{-3, -2}, {-1, -2}, {-4, -2}}},
		{[][]int{{3, -1}, {-2, 4}}, [][]int{{-3, 2}, {1, -4}}},
		{[][]int{{0}}, [][]int{{0}}},
		{[][]int{{-9, 9, 0}}, [][]int{{9}, {-9}, {0}}},
		{[][]int{{-9}, {9}, {0}}, [][]int{{9, -9, 0}}},
		{alike(1, 16, 5), alike(16, 1, -5)},
		{alike(16, 1, -5), alike(1, 16, 5)},
		{alike(16, 16, 9), alike(16, 16, -9)},
	} {
		if turned := impl.TurnedOf(c.g); !reflect.DeepEqual(turned, c.want) {
			t.Errorf("TurnedOf(%v) = %v, not %v", c.g, turned, c.want)
		}
	}
}

func TestPromise11NoGames(t *testing.T) {
	for _, g := range noGames() {
		if turned := impl.TurnedOf(g); len(turned) != 0 {
			t.Errorf("TurnedOf(%v) = %v", g, turned)
		}
	}
}

// roomy returns a copy of a game with room behind its rows and behind each row, and the same memory at its full length.
func roomy(g [][]int) ([][]int, [][]int) {
	whole := make([][]int, 0, len(g)+2)
	for _, row := range g {
		whole = append(whole, append(slices.Clone(row), 77, 78, 79))
	}
	whole = append(whole, []int{81}, []int{82})
	for i, row := range g {
		whole[i] = whole[i][:len(row)]
	}
	return whole[:len(g)], whole
}

// wholeOf returns a copy of all that the memory of a game has, the room behind it too.
func wholeOf(g [][]int) [][]int {
	var list [][]int
	for _, row := range g[:cap(g)] {
		list = append(list, slices.Clone(row[:cap(row)]))
	}
	return list
}

func TestGamesAreNotWrittenTo(t *testing.T) {
	for _, g := range append(games(), noGames()...) {
		given, whole := roomy(g)
		before := wholeOf(whole)
		impl.GameOk(given)
		impl.FloorOf(given)
		impl.RoofOf(given)
		impl.SaddlesOf(given)
		impl.TurnedOf(given)
		if after := wholeOf(whole); !reflect.DeepEqual(after, before) {
			t.Fatalf("%v is %v behind the calls", before, after)
		}
	}
}

// spoil overwrites all memory of a game, the room behind it too.
func spoil(g [][]int) {
	for _, row := range g[:cap(g)] {
		for i := range row[:cap(row)] {
			row[:cap(row)][i] = 99
		}
	}
	clear(g[:cap(g)])
}

func TestTurnedGamesShareNoMemory(t *testing.T) {
	for _, g := range [][][]int{{{5}}, {{1, 2, 3}}, {{1}, {2}, {3}}, {{3, 1, 4}, {2, 2, 2}}, alike(2, 2, 0), alike(16, 16, 3)} {
		given, whole := roomy(g)
		before := wholeOf(whole)
		want := turnedByHand(g)
		first, second := impl.TurnedOf(given), impl.TurnedOf(given)
		for i, row := range first {
			for k := range row[:cap(row)] {
				row[:cap(row)][k] = 99
			}
			if !reflect.DeepEqual(first[i+1:], want[i+1:]) {
				t.Fatalf("TurnedOf(%v): the row %d shares memory with one behind it", g, i)
			}
		}
		first = impl.TurnedOf(given)
		for i := len(first) - 1; i >= 0; i-- {
			spoil(first[i : i+1 : i+1])
			if !reflect.DeepEqual(first[:i], want[:i]) {
				t.Fatalf("TurnedOf(%v): the row %d shares memory with one ahead of it", g, i)
			}
		}
		spoil(impl.TurnedOf(given))
		if !reflect.DeepEqual(second, want) {
			t.Fatalf("TurnedOf(%v): two results share memory", g)
		}
		if !reflect.DeepEqual(wholeOf(whole), before) {
			t.Fatalf("TurnedOf(%v) shares memory with the game", g)
		}
		spoil(whole)
		if !reflect.DeepEqual(second, want) {
			t.Fatalf("TurnedOf(%v) changes with the game", g)
		}
	}
}

func TestSaddlesShareNoMemory(t *testing.T) {
	for _, g := range [][][]int{{{5}}, {{1, 1, 3}}, {{1}, {2}, {2}}, alike(2, 3, 0), alike(16, 16, 3)} {
		given, whole := roomy(g)
		before := wholeOf(whole)
		want := saddlesByHand(g)
		first, second := impl.SaddlesOf(given), impl.SaddlesOf(given)
		spoil([][]int{first})
		if !slices.Equal(second, want) {
			t.Fatalf("SaddlesOf(%v): two results share memory", g)
		}
		if !reflect.DeepEqual(wholeOf(whole), before) {
			t.Fatalf("SaddlesOf(%v) shares memory with the game", g)
		}
		spoil(whole)
		if !slices.Equal(second, want) {
			t.Fatalf("SaddlesOf(%v) changes with the game", g)
		}
	}
}
