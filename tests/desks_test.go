package tests

import (
	"math"
	"math/rand"
	"reflect"
	"slices"
	"sync"
	"testing"

	"loop.example/hideandseek/impl"
)

// deskOf is a desk of copies of a game and of those of before.
func deskOf(now [][]int, past ...[][]int) impl.Desk {
	d := impl.Desk{Now: copyOf(now)}
	for _, g := range past {
		d.Past = append(d.Past, copyOf(g))
	}
	return d
}

func sameGame(g [][]int, h [][]int) bool {
	return slices.EqualFunc(g, h, slices.Equal[[]int])
}

// sameDesk holds a desk without games of before for the same whether it has no list of them or an empty one.
func sameDesk(d impl.Desk, e impl.Desk) bool {
	return sameGame(d.Now, e.Now) && slices.EqualFunc(d.Past, e.Past, sameGame)
}

// noDesk reports whether a desk is the zero value.
func noDesk(d impl.Desk) bool {
	return len(d.Now) == 0 && len(d.Past) == 0
}

// laidByHand counts what a game that may be laid must not have.
func laidByHand(g [][]int) bool {
	if len(g) < 1 || len(g) > 4 || len(g[0]) < 1 || len(g[0]) > 4 {
		return false
	}
	wrong := 0
	for _, row := range g {
		wrong += oneOrNone(len(row) != len(g[0]))
		for _, n := range row {
			wrong += oneOrNone(n < -9 || n > 9)
		}
	}
	return wrong == 0
}

// laidExamples are games that may be laid, of one number and of others: with and without saddles, fair, at the bounds of numbers, and with and without what is worse.
func laidExamples() [][][]int {
	list := [][][]int{
		{{0}}, {{5}}, {{-5}}, {{9}}, {{-9}}, {{1, 2, 3, 4}}, {{0, 0}}, {{1}, {2}, {3}, {4}}, {{0}, {0}},
		{{3, -1}, {-2, 4}}, {{1, -1}, {-1, 1}}, {{0, 2}, {-2, 0}}, {{-9, 9}, {9, -9}}, {{3, 1, 4}, {2, 2, 2}}, {{1, 2, 0}, {2, 3, 1}, {3, 0, 2}},
		{{0, 1, -1}, {-1, 0, 1}, {1, -1, 0}}, {{2, 0, 0}, {0, 3, 0}, {0, 0, 6}}, {{0, 0, 2, 0}, {3, 0, 0, 0}, {0, 0, 0, 4}, {0, 6, 0, 0}},
		{{0, 0, 0}, {0, 5, -5}, {0, -5, 5}}, alike(4, 4, 0), alike(4, 4, 9), alike(4, 4, -9), alike(3, 2, 1), alike(2, 4, -1),
	}
	draw := rand.New(rand.NewSource(30))
	for _, from := range [][][][]int{drawnSolved(), fairSolved(), repeatedSolved(), saddledSolved(), grownSolved()} {
		for range 12 {
			list = append(list, from[draw.Intn(len(from))])
		}
	}
	return list
}

// laidOnce keeps these games, which are asked for very often; they are not written to.
var laidOnce = sync.OnceValue(laidExamples)

// laid are all games with which the promises of this chapter are tested.
func laid() [][][]int {
	list := slices.Concat(laidOnce(), drawnSolved(), fairSolved(), repeatedSolved(), alikeSolved(), saddledSolved(), grownSolved())
	for n := -9; n <= 9; n++ {
		list = append(list, [][]int{{n}})
	}
	return list
}

// notLaid are games of too many rows or columns, and no games.
func notLaid() [][][]int {
	return append(tooGreat(), noGames()...)
}

// pastOf are so many drawn games.
func pastOf(draw *rand.Rand, many int) [][][]int {
	from := laidOnce()
	var past [][][]int
	for range many {
		past = append(past, from[draw.Intn(len(from))])
	}
	return past
}

// desks are desks of all examples with each number of games of before, some of which are the same as the one that lies there.
func desks() []impl.Desk {
	draw := rand.New(rand.NewSource(31))
	var list []impl.Desk
	for _, g := range laidOnce() {
		for many := 0; many <= 8; many++ {
			list = append(list, deskOf(g, pastOf(draw, many)...))
		}
		list = append(list, deskOf(g, g), deskOf(g, slices.Repeat([][][]int{g}, 8)...))
	}
	return list
}

// someDesks are few enough to do much at each: the first examples, with no games of before, with some, and with as many as may be.
func someDesks() []impl.Desk {
	draw := rand.New(rand.NewSource(32))
	var list []impl.Desk
	for _, g := range laidOnce()[:24] {
		for _, many := range []int{0, 1, 7, 8} {
			list = append(list, deskOf(g, pastOf(draw, many)...))
		}
	}
	return list
}

// noDesks are desks with a game that may not be laid, now or at any place before, and with too many games of before.
func noDesks() []impl.Desk {
	draw := rand.New(rand.NewSource(33))
	g := [][]int{{3, -1}, {-2, 4}}
	list := []impl.Desk{{}, {Past: [][][]int{g}}}
	for many := 9; many <= 20; many++ {
		list = append(list, deskOf(g, pastOf(draw, many)...), deskOf([][]int{{0}}, slices.Repeat([][][]int{{{0}}}, many)...))
	}
	for at, none := range notLaid() {
		past := pastOf(draw, 1+at%8)
		past[draw.Intn(len(past))] = none
		list = append(list, deskOf(none), deskOf(none, pastOf(draw, at%9)...), deskOf(g, past...), deskOf(none, past...), deskOf(g, none), deskOf(none, none))
	}
	for at := range 8 {
		for _, none := range [][][]int{nil, {{10}}, alike(5, 4, 0), alike(4, 5, 0)} {
			past := pastOf(draw, 8)
			past[at] = none
			list = append(list, deskOf(g, past...))
		}
	}
	return list
}

// doneByHand is a desk after a deed, and whether that can be done.
func doneByHand(d impl.Desk, a impl.Deed) (impl.Desk, bool) {
	var game [][]int
	switch {
	case a.Kind == 0 && a.Row >= 0 && a.Row < len(d.Now) && a.Column >= 0 && a.Column < len(d.Now[0]):
		game = with(d.Now, a.Row, a.Column, a.By)
	case a == impl.Deed{Kind: 1}:
		game = turnedByHand(d.Now)
	case a == impl.Deed{Kind: 2, By: a.By} && a.By >= -9 && a.By <= 9:
		game = shiftedByHand(d.Now, a.By)
	case a == impl.Deed{Kind: 3}:
		game, _ = smallerByHand(d.Now, inOrder)
	case a == impl.Deed{Kind: 4} && len(d.Past) > 0:
		last := len(d.Past) - 1
		return deskOf(d.Past[last], d.Past[:last]...), true
	}
	if !laidByHand(game) || sameGame(game, d.Now) {
		return d, false
	}
	past := append(slices.Clone(d.Past), d.Now)
	return deskOf(game, past[max(0, len(past)-8):]...), true
}

// runByHand does deeds one after the other, and counts those that can be done.
func runByHand(d impl.Desk, list []impl.Deed) (impl.Desk, int) {
	many := 0
	for _, a := range list {
		after, ok := doneByHand(d, a)
		d, many = after, many+oneOrNone(ok)
	}
	return d, many
}

// plainDeeds are deeds of all kinds that can be done at many desks.
func plainDeeds() []impl.Deed {
	list := []impl.Deed{{Kind: 1}, {Kind: 3}, {Kind: 4}}
	for by := -9; by <= 9; by++ {
		list = append(list, impl.Deed{Kind: 2, By: by})
		for place := range 16 {
			list = append(list, impl.Deed{Row: place / 4, Column: place % 4, By: by})
		}
	}
	return list
}

// otherDeeds are deeds that can be done at no desk.
func otherDeeds() []impl.Deed {
	var list []impl.Deed
	for _, far := range append(farFew(), -11, -10, 10, 11, 18, -18, 19) {
		list = append(list, impl.Deed{By: far}, impl.Deed{Kind: 2, By: far})
	}
	for _, far := range append(farFew(), -16, -4, -2, -1, 4, 5, 9, 16) {
		for _, by := range []int{-1, 1, 7} {
			list = append(list, impl.Deed{Row: far, By: by}, impl.Deed{Column: far, By: by}, impl.Deed{Row: far, Column: far, By: by})
		}
	}
	for _, n := range append(farFew(), -10, -9, -1, 1, 2, 9, 10) {
		for _, kind := range []int{1, 3, 4} {
			list = append(list, impl.Deed{Kind: kind, Row: n}, impl.Deed{Kind: kind, Column: n}, impl.Deed{Kind: kind, By: n}, impl.Deed{Kind: kind, Row: n, Column: -n, By: n})
		}
		for _, by := range []int{-1, 1} {
			list = append(list, impl.Deed{Kind: 2, Row: n, By: by}, impl.Deed{Kind: 2, Column: n, By: by}, impl.Deed{Kind: 2, Row: n, Column: n, By: by})
		}
	}
	return append(list, noKinds()...)
}

// noKinds are deeds of kinds that are none, some of which are kinds in their low bits.
func noKinds() []impl.Deed {
	var list []impl.Deed
	for _, kind := range append(farFew(), -256, 256, 65536, -5, -4, -3, -2, -1, 5, 6, 7, 8, 9, 10, 16, math.MinInt+1, math.MinInt32+2) {
		for _, a := range []impl.Deed{{}, {By: 1}, {By: -1}, {Row: 1, Column: 1, By: 5}, {Row: 1}, {Column: 1}} {
			a.Kind = kind
			list = append(list, a)
		}
	}
	return list
}

// drawnDeeds are so many deeds, few of which cannot be done.
func drawnDeeds(draw *rand.Rand, many int) []impl.Deed {
	plain, others := plainDeeds(), otherDeeds()
	list := make([]impl.Deed, 0, many)
	for range many {
		switch draw.Intn(8) {
		case 0:
			list = append(list, others[draw.Intn(len(others))])
		case 1, 2, 3:
			list = append(list, impl.Deed{Row: draw.Intn(3), Column: draw.Intn(3), By: draw.Intn(19) - 9})
		case 4:
			list = append(list, impl.Deed{Kind: 4})
		case 5:
			list = append(list, impl.Deed{Kind: 1})
		default:
			list = append(list, plain[draw.Intn(len(plain))])
		}
	}
	return list
}

func TestDeskConstants(t *testing.T) {
	if impl.DkSet != 0 || impl.DkTurn != 1 || impl.DkShift != 2 || impl.DkSmaller != 3 || impl.DkBack != 4 {
		t.Error(impl.DkSet, impl.DkTurn, impl.DkShift, impl.DkSmaller, impl.DkBack)
	}
	if impl.MaxPast != 8 || impl.MaxLines != 40 {
		t.Error(impl.MaxPast, impl.MaxLines)
	}
}

func TestPromise61OneNumberMayBeLaid(t *testing.T) {
	for n := -40; n <= 40; n++ {
		if got := impl.LaidOk([][]int{{n}}); got != (n >= -9 && n <= 9) {
			t.Errorf("LaidOk of the number %d alone is %v", n, got)
		}
	}
	for _, g := range append(laid(), smallGames()...) {
		if !impl.LaidOk(g) {
			t.Fatalf("LaidOk(%v) = false", g)
		}
		if _, ok := impl.SolveOf(g); !ok {
			t.Fatalf("%v may be laid, but is not solved", g)
		}
	}
}

func TestPromise61Sizes(t *testing.T) {
	for rows := 0; rows <= 20; rows++ {
		for columns := 0; columns <= 20; columns++ {
			want := rows >= 1 && rows <= 4 && columns >= 1 && columns <= 4
			if got := impl.LaidOk(alike(rows, columns, -9)); got != want {
				t.Errorf("LaidOk of %d rows and %d columns is %v", rows, columns, got)
			}
		}
	}
}

func TestPromise61NotLaid(t *testing.T) {
	for _, g := range notLaid() {
		if impl.LaidOk(g) {
			t.Errorf("LaidOk(%v) = true", g)
		}
	}
	for _, g := range slices.Concat(drawnGames(), saddleGames(), alikeGames(), noFair()) {
		if got := impl.LaidOk(g); got != laidByHand(g) {
			t.Errorf("LaidOk(%v) = %v", g, got)
		}
	}
}

func TestPromise62DesksCanForget(t *testing.T) {
	for _, g := range append(laid(), smallGames()...) {
		if !impl.DeskOk(impl.Desk{Now: g}) || !impl.DeskOk(impl.Desk{Now: g, Past: [][][]int{}}) {
			t.Fatalf("DeskOk of %v alone is false", g)
		}
	}
	for _, d := range desks() {
		if !impl.DeskOk(d) {
			t.Fatalf("DeskOk(%v) = false", d)
		}
		for many := range d.Past {
			if !impl.DeskOk(deskOf(d.Now, d.Past[:many]...)) || !impl.DeskOk(deskOf(d.Now, d.Past[many:]...)) {
				t.Fatalf("DeskOk(%v) = false with %d games of before, or with the others", d, many)
			}
		}
	}
}

func TestPromise62GamesOfBefore(t *testing.T) {
	draw := rand.New(rand.NewSource(34))
	for many := 0; many <= 40; many++ {
		if got := impl.DeskOk(deskOf([][]int{{0}}, pastOf(draw, many)...)); got != (many <= 8) {
			t.Errorf("DeskOk with %d games of before is %v", many, got)
		}
	}
}

func TestPromise62NoDesks(t *testing.T) {
	for _, d := range noDesks() {
		if impl.DeskOk(d) {
			t.Errorf("DeskOk(%v) = true", d)
		}
	}
}

func TestPromise63NewDesksHaveOneGame(t *testing.T) {
	for _, g := range append(laid(), smallGames()...) {
		d, ok := impl.DeskNew(g)
		if !ok || !sameGame(d.Now, g) || len(d.Past) != 0 || !impl.DeskOk(d) {
			t.Fatalf("DeskNew(%v) = %v, %v", g, d, ok)
		}
	}
}

func TestPromise63NotLaid(t *testing.T) {
	for _, g := range notLaid() {
		if d, ok := impl.DeskNew(g); ok || !noDesk(d) {
			t.Errorf("DeskNew(%v) = %v, %v", g, d, ok)
		}
	}
}

func testDone(t *testing.T, d impl.Desk, a impl.Deed, want impl.Desk, can bool) {
	t.Helper()
	if after, ok := impl.DeskDo(d, a); ok != can || !sameDesk(after, want) {
		t.Fatalf("DeskDo(%v, %v) = %v, %v, not %v, %v", d, a, after, ok, want, can)
	}
}

func TestPromise57Examples(t *testing.T) {
	g := [][]int{{3, -1}, {-2, 4}}
	past := [][][]int{{{1}}, {{2}}, {{3}}, {{4}}, {{5}}, {{6}}, {{7}}, {{8}}}
	for _, c := range []struct {
		d    impl.Desk
		a    impl.Deed
		want impl.Desk
	}{
		{deskOf(g), impl.Deed{Row: 1, By: 5}, deskOf([][]int{{3, -1}, {5, 4}}, g)},
		{deskOf(g), impl.Deed{Column: 1, By: -9}, deskOf([][]int{{3, -9}, {-2, 4}}, g)},
		{deskOf(g, [][]int{{7}}), impl.Deed{Row: 1, Column: 1, By: 9}, deskOf([][]int{{3, -1}, {-2, 9}}, [][]int{{7}}, g)},
		{deskOf([][]int{{5}}), impl.Deed{}, deskOf([][]int{{0}}, [][]int{{5}})},
		{deskOf(g), impl.Deed{Kind: 1}, deskOf([][]int{{-3, 2}, {1, -4}}, g)},
		{deskOf([][]int{{1, 2, 3}}), impl.Deed{Kind: 1}, deskOf([][]int{{-1}, {-2}, {-3}}, [][]int{{1, 2, 3}})},
		{deskOf([][]int{{0, 0}}), impl.Deed{Kind: 1}, deskOf([][]int{{0}, {0}}, [][]int{{0, 0}})},
		{deskOf(g), impl.Deed{Kind: 2, By: 5}, deskOf([][]int{{8, 4}, {3, 9}}, g)},
		{deskOf(g), impl.Deed{Kind: 2, By: -7}, deskOf([][]int{{-4, -8}, {-9, -3}}, g)},
		{deskOf([][]int{{-9}}), impl.Deed{Kind: 2, By: 9}, deskOf([][]int{{0}}, [][]int{{-9}})},
		{deskOf([][]int{{1, 2, 0}, {2, 3, 1}, {3, 0, 2}}), impl.Deed{Kind: 3}, deskOf([][]int{{3, 1}, {0, 2}}, [][]int{{1, 2, 0}, {2, 3, 1}, {3, 0, 2}})},
		{deskOf(alike(4, 4, 2)), impl.Deed{Kind: 3}, deskOf([][]int{{2}}, alike(4, 4, 2))},
		{deskOf(g, [][]int{{7}}), impl.Deed{Kind: 4}, deskOf([][]int{{7}})},
		{deskOf(g, [][]int{{7}}, g), impl.Deed{Kind: 4}, deskOf(g, [][]int{{7}})},
		{deskOf([][]int{{9}}, past...), impl.Deed{Kind: 4}, deskOf([][]int{{8}}, past[:7]...)},
		{deskOf([][]int{{9}}, past...), impl.Deed{Kind: 2, By: -9}, deskOf([][]int{{0}}, append(past[1:8:8], [][]int{{9}})...)},
		{deskOf([][]int{{9}}, past...), impl.Deed{Kind: 1}, deskOf([][]int{{-9}}, append(past[1:8:8], [][]int{{9}})...)},
		{deskOf([][]int{{9}}, past[:7]...), impl.Deed{Kind: 1}, deskOf([][]int{{-9}}, append(past[:7:7], [][]int{{9}})...)},
	} {
		testDone(t, c.d, c.a, c.want, true)
	}
}

func TestPromise57WhatCannotBeDone(t *testing.T) {
	g := [][]int{{3, -1}, {-2, 4}}
	for _, c := range []struct {
		g [][]int
		a impl.Deed
	}{
		{g, impl.Deed{By: 3}}, {g, impl.Deed{Row: 1, Column: 1, By: 4}}, {g, impl.Deed{By: 10}}, {g, impl.Deed{By: -10}},
		{g, impl.Deed{Row: 2, By: 1}}, {g, impl.Deed{Column: 2, By: 1}}, {g, impl.Deed{Row: -1, By: 1}}, {g, impl.Deed{Column: -1, By: 1}},
		{g, impl.Deed{Row: 1, Column: -1, By: 1}}, {g, impl.Deed{Row: -1, Column: 4, By: 1}},
		{[][]int{{0}}, impl.Deed{}}, {[][]int{{0}}, impl.Deed{Row: 1, By: 1}}, {[][]int{{0}}, impl.Deed{Column: 1, By: 1}},
		{[][]int{{1, 2, 3}}, impl.Deed{Row: 1, By: 5}}, {[][]int{{1}, {2}, {3}}, impl.Deed{Column: 1, By: 5}},
		{[][]int{{0}}, impl.Deed{Kind: 1}}, {[][]int{{0, 2}, {-2, 0}}, impl.Deed{Kind: 1}}, {[][]int{{0, 1, -1}, {-1, 0, 1}, {1, -1, 0}}, impl.Deed{Kind: 1}},
		{g, impl.Deed{Kind: 2}}, {g, impl.Deed{Kind: 2, By: 6}}, {g, impl.Deed{Kind: 2, By: -8}}, {g, impl.Deed{Kind: 2, By: 10}},
		// The number at each place would be 9, or -9, but none of more than 9 is added.
		{[][]int{{-9}}, impl.Deed{Kind: 2, By: 18}}, {[][]int{{9}}, impl.Deed{Kind: 2, By: -18}}, {[][]int{{-1}}, impl.Deed{Kind: 2, By: 10}}, {[][]int{{1}}, impl.Deed{Kind: 2, By: -10}},
		{g, impl.Deed{Kind: 3}}, {[][]int{{5}}, impl.Deed{Kind: 3}}, {[][]int{{0, 0, 0}, {0, 5, -5}, {0, -5, 5}}, impl.Deed{Kind: 3}},
		{g, impl.Deed{Kind: 4}}, {[][]int{{0}}, impl.Deed{Kind: 4}},
		{g, impl.Deed{Kind: 1, By: 1}}, {g, impl.Deed{Kind: 2, Row: 1, By: 1}}, {g, impl.Deed{Kind: 2, Column: 1, By: 1}},
		{g, impl.Deed{Kind: 5}}, {g, impl.Deed{Kind: -1}}, {g, impl.Deed{Kind: 5, Row: 1, By: 5}}, {g, impl.Deed{Kind: -1, By: 1}},
	} {
		testDone(t, deskOf(c.g), c.a, deskOf(c.g), false)
		if c.a.Kind != 4 {
			d := deskOf(c.g, slices.Repeat([][][]int{{{1, 2}}}, 8)...)
			testDone(t, d, c.a, d, false)
		}
	}
}

func TestPromise57DeedsByHand(t *testing.T) {
	var done [5][2]int
	for _, d := range desks() {
		for _, a := range plainDeeds() {
			want, ok := doneByHand(d, a)
			testDone(t, d, a, want, ok)
			done[a.Kind][oneOrNone(ok)]++
		}
	}
	for kind, many := range done {
		if min(many[0], many[1]) < 50 {
			t.Errorf("a deed of the kind %d was done, or not, only %v times: too few to test it", kind, many)
		}
	}
}

func TestPromise57AllGames(t *testing.T) {
	for at, g := range append(laid(), smallGames()[:2000]...) {
		d := deskOf(g, [][]int{{at % 10}})
		for _, a := range []impl.Deed{{Kind: 1}, {Kind: 3}, {Kind: 4}, {Kind: 2, By: 1}, {Kind: 2, By: -1}, {Kind: 2, By: at%19 - 9}, {Row: at % 4, Column: at / 4 % 4, By: at%19 - 9}} {
			want, ok := doneByHand(d, a)
			testDone(t, d, a, want, ok)
		}
	}
}

func TestPromise57DeedsThatAreDoneAtNoDesk(t *testing.T) {
	others := otherDeeds()
	for _, d := range someDesks() {
		for _, a := range others {
			if _, ok := doneByHand(d, a); ok {
				t.Fatalf("%v is done at %v", a, d)
			}
			testDone(t, d, a, d, false)
		}
	}
}

// Each number is put at each place of a few games, and around them.
func TestPromise57EachNumberAtEachPlace(t *testing.T) {
	for _, g := range [][][]int{{{0}}, {{-9}}, {{1, 2, 3, 4}}, {{1}, {2}, {3}, {4}}, {{3, -1}, {-2, 4}}, {{3, 1, 4}, {2, 2, 2}}, alike(4, 4, 9), alike(4, 3, 0)} {
		for row := -5; row <= 8; row++ {
			for column := -5; column <= 8; column++ {
				for by := -20; by <= 20; by++ {
					a := impl.Deed{Row: row, Column: column, By: by}
					inside := row >= 0 && row < len(g) && column >= 0 && column < len(g[0])
					if inside && by >= -9 && by <= 9 && g[row][column] != by {
						testDone(t, deskOf(g), a, deskOf(with(g, row, column, by), g), true)
					} else {
						testDone(t, deskOf(g), a, deskOf(g), false)
					}
				}
			}
		}
	}
}

func TestPromise57EachShift(t *testing.T) {
	for _, g := range laidOnce() {
		for by := -300; by <= 300; by++ {
			least, greatest := -10, 10
			for _, row := range g {
				least, greatest = max(least, -10-slices.Min(row)), min(greatest, 10-slices.Max(row))
			}
			if by > least && by < greatest && by != 0 {
				testDone(t, deskOf(g), impl.Deed{Kind: 2, By: by}, deskOf(shiftedByHand(g, by), g), true)
			} else {
				testDone(t, deskOf(g), impl.Deed{Kind: 2, By: by}, deskOf(g), false)
			}
		}
	}
}

func TestPromise57DoneCanBeUndone(t *testing.T) {
	full := 0
	for _, d := range desks() {
		for _, a := range plainDeeds() {
			after, ok := impl.DeskDo(d, a)
			if !impl.DeskOk(after) {
				t.Fatalf("DeskDo(%v, %v) = %v, which is no desk", d, a, after)
			}
			if !ok && !sameDesk(after, d) {
				t.Fatalf("DeskDo(%v, %v) = %v, %v", d, a, after, ok)
			}
			if !ok || a.Kind == impl.DkBack {
				continue
			}
			want := d
			if len(d.Past) == impl.MaxPast {
				want.Past = d.Past[1:]
				full++
			}
			testDone(t, after, impl.Deed{Kind: impl.DkBack}, want, true)
		}
	}
	if full < 1000 {
		t.Fatalf("only %d deeds were done with all games of before: too few to test them", full)
	}
}

func TestPromise57SmallerIsWorthAsMuch(t *testing.T) {
	done := 0
	for _, g := range append(laid(), smallGames()...) {
		after, ok := impl.DeskDo(deskOf(g), impl.Deed{Kind: impl.DkSmaller})
		before, told := impl.WorthOf(g)
		if now, known := impl.WorthOf(after.Now); !told || !known || now != before {
			t.Fatalf("DeskDo(%v, smaller) = %v, which is worth %v and not %v", g, after, now, before)
		}
		if ok != (len(after.Now)*len(after.Now[0]) < len(g)*len(g[0])) || ok == sameGame(after.Now, g) || !sameGame(after.Now, impl.SmallerOf(g)) {
			t.Fatalf("DeskDo(%v, smaller) = %v, %v", g, after, ok)
		}
		if again, more := impl.DeskDo(after, impl.Deed{Kind: impl.DkSmaller}); more || !sameDesk(again, after) {
			t.Fatalf("DeskDo(%v, smaller) = %v, and again it is %v", g, after, again)
		}
		done += oneOrNone(ok)
	}
	if done < 1000 {
		t.Fatalf("only %d games became smaller: too few to test them", done)
	}
}

// The first games are gone one by one, and all others come back in reverse.
func TestPromise57MoreGamesThanMayBe(t *testing.T) {
	for many := 0; many <= 30; many++ {
		d := deskOf([][]int{{0, 9}})
		games := [][][]int{d.Now}
		for step := range many {
			d, _ = impl.DeskDo(d, impl.Deed{Column: step % 2, By: (step + 1) % 9})
			games = append(games, d.Now)
		}
		for back := 0; back <= 10; back++ {
			left := min(many, 8) - back
			after, ok := impl.DeskDo(d, impl.Deed{Kind: impl.DkBack})
			if ok != (left > 0) || len(d.Past) != max(0, left) || !sameGame(d.Now, games[many-min(back, many, 8)]) {
				t.Fatalf("after %d deeds and %d back it is %v, and then %v", many, back, d, after)
			}
			d = after
		}
	}
}

func TestPromise57NoDesks(t *testing.T) {
	deeds := append(otherDeeds()[:200:200], plainDeeds()...)
	for at, d := range noDesks() {
		for i := range 24 {
			if after, ok := impl.DeskDo(d, deeds[(at*24+i*31)%len(deeds)]); ok || !noDesk(after) {
				t.Fatalf("DeskDo(%v, %v) = %v, %v", d, deeds[(at*24+i*31)%len(deeds)], after, ok)
			}
		}
		for _, a := range []impl.Deed{{By: 5}, {Kind: 1}, {Kind: 2, By: 1}, {Kind: 3}, {Kind: 4}, {Kind: 5}, {Kind: 4, By: 1}} {
			if after, ok := impl.DeskDo(d, a); ok || !noDesk(after) {
				t.Fatalf("DeskDo(%v, %v) = %v, %v", d, a, after, ok)
			}
		}
	}
}

func testRun(t *testing.T, d impl.Desk, list []impl.Deed, want impl.Desk, many int) {
	t.Helper()
	if after, n := impl.DeskRun(d, list); n != many || !sameDesk(after, want) {
		t.Fatalf("DeskRun(%v, %v) = %v, %d, not %v, %d", d, list, after, n, want, many)
	}
}

func TestPromise58DeedsOneAfterTheOther(t *testing.T) {
	draw := rand.New(rand.NewSource(35))
	for at, d := range desks() {
		for _, many := range []int{1, 2, 3, at % 41, 39, 40} {
			list := drawnDeeds(draw, many)
			want, done := runByHand(d, list)
			testRun(t, d, list, want, done)
			if !impl.DeskOk(want) {
				t.Fatalf("DeskRun(%v, %v) = %v, which is no desk", d, list, want)
			}
		}
	}
}

func TestPromise58TwoParts(t *testing.T) {
	draw := rand.New(rand.NewSource(36))
	for at, d := range desks() {
		list := drawnDeeds(draw, at%41)
		whole, many := impl.DeskRun(d, list)
		for cut := 0; cut <= len(list); cut++ {
			first, some := impl.DeskRun(d, list[:cut])
			if !impl.DeskOk(first) {
				t.Fatalf("DeskRun(%v, %v) = %v, which is no desk", d, list[:cut], first)
			}
			testRun(t, first, list[cut:], whole, many-some)
		}
	}
}

func TestPromise58OneByOne(t *testing.T) {
	draw := rand.New(rand.NewSource(37))
	for _, d := range desks() {
		list := drawnDeeds(draw, 40)
		want, many := d, 0
		for _, a := range list {
			after, ok := impl.DeskDo(want, a)
			want, many = after, many+oneOrNone(ok)
		}
		testRun(t, d, list, want, many)
	}
}

func TestPromise58NoDeeds(t *testing.T) {
	for _, d := range desks() {
		testRun(t, d, nil, d, 0)
		testRun(t, d, []impl.Deed{}, d, 0)
	}
}

func TestPromise58DeedsThatCannotBeDone(t *testing.T) {
	others := otherDeeds()
	for at, d := range desks() {
		for many := 1; many <= 40; many += 3 {
			list := make([]impl.Deed, many)
			for i := range list {
				list[i] = others[(at*40+i*7)%len(others)]
			}
			testRun(t, d, list, d, 0)
			// What can be done is done, wherever it stands among them.
			list[at%many] = impl.Deed{By: 4}
			want, done := runByHand(d, list[at%many:at%many+1])
			testRun(t, d, list, want, done)
		}
	}
}

func TestPromise58HowManyDeeds(t *testing.T) {
	for _, d := range someDesks() {
		for many := 0; many <= 45; many++ {
			list := make([]impl.Deed, many)
			for i := range list {
				// The number at the first place is always another one.
				list[i] = impl.Deed{By: i % 3}
			}
			if many > 0 {
				list[0].By = -4 - oneOrNone(d.Now[0][0] == -4)
			}
			if many > 40 {
				testRun(t, d, list, impl.Desk{}, 0)
				continue
			}
			want, _ := runByHand(d, list)
			testRun(t, d, list, want, many)
		}
	}
	for _, many := range []int{41, 42, 80, 81, 256, 296, 1000, 65576} {
		testRun(t, deskOf([][]int{{5}}), make([]impl.Deed, many), impl.Desk{}, 0)
		testRun(t, deskOf([][]int{{0}}), make([]impl.Deed, many), impl.Desk{}, 0)
		testRun(t, deskOf([][]int{{0}}), slices.Repeat([]impl.Deed{{Kind: 9}}, many), impl.Desk{}, 0)
	}
}

func TestPromise58NoDesks(t *testing.T) {
	draw := rand.New(rand.NewSource(38))
	list := drawnDeeds(draw, 41)
	for _, d := range noDesks() {
		for _, many := range []int{0, 1, 2, 40, 41} {
			testRun(t, d, list[:many], impl.Desk{}, 0)
		}
		testRun(t, d, []impl.Deed{{Kind: 4}}, impl.Desk{}, 0)
	}
}

// roomyDesk is a copy of a desk with room behind its games of before, and behind all games and their rows.
func roomyDesk(d impl.Desk) impl.Desk {
	now, _ := roomy(d.Now)
	past := make([][][]int, 0, len(d.Past)+2)
	for _, g := range append(slices.Clone(d.Past), [][]int{{83}}, [][]int{{84}}) {
		given, _ := roomy(g)
		past = append(past, given)
	}
	return impl.Desk{Now: now, Past: past[:len(d.Past)]}
}

// gamesOf are all games in the memory of a desk, the room behind those of before too.
func gamesOf(d impl.Desk) [][][]int {
	return append([][][]int{d.Now}, d.Past[:cap(d.Past)]...)
}

// memoryOf is a copy of all that the memory of some games has.
func memoryOf(games [][][]int) [][][]int {
	var list [][][]int
	for _, g := range games {
		list = append(list, wholeOf(g))
	}
	return list
}

// spoilDesk overwrites all memory of a desk.
func spoilDesk(d impl.Desk) {
	for _, g := range gamesOf(d) {
		spoil(g)
	}
	clear(d.Past[:cap(d.Past)])
}

// linesApart reports whether no two of some lists share memory, the room behind them too. It puts another value at each place of all of them, and looks for one that was overwritten.
func linesApart[T any](lists [][]T, put func(n int) T, read func(value T) int) bool {
	n := 0
	for _, list := range lists {
		for i := range list[:cap(list)] {
			list[:cap(list)][i] = put(n)
			n++
		}
	}
	n = 0
	for _, list := range lists {
		for _, value := range list[:cap(list)] {
			if read(value) != n {
				return false
			}
			n++
		}
	}
	return true
}

// desksApart reports whether no two of some desks, and no two games or rows of one, share memory; it overwrites them.
func desksApart(desks []impl.Desk) bool {
	var pasts [][][][]int
	var games [][][]int
	var rows [][]int
	for _, d := range desks {
		pasts, games = append(pasts, d.Past), append(games, gamesOf(d)...)
	}
	for _, g := range games {
		rows = append(rows, g[:cap(g)]...)
	}
	row := func(n int) []int { return []int{n} }
	game := func(n int) [][]int { return [][]int{{n}} }
	return linesApart(rows, func(n int) int { return n }, func(n int) int { return n }) &&
		linesApart(games, row, func(row []int) int { return row[0] }) &&
		linesApart(pasts, game, func(g [][]int) int { return g[0][0] })
}

// deskCalls are calls that return a desk. Some of them do nothing, so that the desk is as before.
var deskCalls = map[string]func(d impl.Desk) impl.Desk{
	"new": func(d impl.Desk) impl.Desk {
		after, _ := impl.DeskNew(d.Now)
		return after
	},
	"set":          deskDoing(impl.Deed{By: 6}),
	"turn":         deskDoing(impl.Deed{Kind: 1}),
	"shift":        deskDoing(impl.Deed{Kind: 2, By: 1}),
	"smaller":      deskDoing(impl.Deed{Kind: 3}),
	"back":         deskDoing(impl.Deed{Kind: 4}),
	"not set":      deskDoing(impl.Deed{By: 10}),
	"not back":     deskDoing(impl.Deed{Kind: 4, By: 1}),
	"not shifted":  deskDoing(impl.Deed{Kind: 2}),
	"no kind":      deskDoing(impl.Deed{Kind: 5}),
	"run":          deskRunning(impl.Deed{By: 6}, impl.Deed{Kind: 1}, impl.Deed{Kind: 4}, impl.Deed{Kind: 2, By: -1}),
	"run back":     deskRunning(impl.Deed{Kind: 4}, impl.Deed{Kind: 4}),
	"run nothing":  deskRunning(),
	"not run":      deskRunning(impl.Deed{Kind: 5}, impl.Deed{By: 10}),
	"say":          deskSaying("set 0 0 6", "game", "turn", "shift 1", "learn 3", "back"),
	"say back":     deskSaying("back", "back"),
	"say nothing":  deskSaying(),
	"not said":     deskSaying("", "set 9 9 9", "game", "what"),
	"line":         deskHearing("set 0 0 6"),
	"line back":    deskHearing("back"),
	"not a deed":   deskHearing("shift 0"),
	"question":     deskHearing("worth"),
	"no question":  deskHearing("nothing"),
	"another line": deskHearing(""),
}

func deskDoing(a impl.Deed) func(d impl.Desk) impl.Desk {
	return func(d impl.Desk) impl.Desk {
		after, _ := impl.DeskDo(d, a)
		return after
	}
}

func deskRunning(list ...impl.Deed) func(d impl.Desk) impl.Desk {
	return func(d impl.Desk) impl.Desk {
		after, _ := impl.DeskRun(d, list)
		return after
	}
}

func deskSaying(lines ...string) func(d impl.Desk) impl.Desk {
	return func(d impl.Desk) impl.Desk {
		after, _ := impl.DeskSay(d, lines)
		return after
	}
}

func deskHearing(line string) func(d impl.Desk) impl.Desk {
	return func(d impl.Desk) impl.Desk {
		after, _ := impl.DeskLine(d, line)
		return after
	}
}

func TestDesksAreNotWrittenTo(t *testing.T) {
	for _, d := range append(desks(), noDesks()...) {
		given := roomyDesk(d)
		before := memoryOf(gamesOf(given))
		impl.LaidOk(given.Now)
		impl.DeskOk(given)
		for name, call := range deskCalls {
			call(given)
			if after := memoryOf(gamesOf(given)); !reflect.DeepEqual(after, before) {
				t.Fatalf("%v is %v behind the call %q", before, after, name)
			}
		}
	}
}

func TestDesksShareNoMemory(t *testing.T) {
	for _, d := range append(desks(), noDesks()[:100]...) {
		given := roomyDesk(d)
		list := []impl.Desk{given}
		for range 2 {
			for _, call := range deskCalls {
				list = append(list, call(given))
			}
		}
		if !desksApart(list) {
			t.Fatalf("desks after %v share memory", d)
		}
	}
}

// TestDesksAreAsBefore overwrites what was returned, and the lists of games of before, and asks again; then it overwrites the desk that was given.
func TestDesksAreAsBefore(t *testing.T) {
	for _, d := range desks() {
		for name, call := range deskCalls {
			given := roomyDesk(d)
			before := memoryOf(gamesOf(given))
			want := call(deskOf(d.Now, d.Past...))
			spoilDesk(call(given))
			if after := memoryOf(gamesOf(given)); !reflect.DeepEqual(after, before) {
				t.Fatalf("the call %q shares memory with %v", name, d)
			}
			after := call(given)
			spoilDesk(given)
			if !sameDesk(after, want) {
				t.Fatalf("the call %q at %v leads to %v, and not to %v", name, d, after, want)
			}
		}
	}
}

func TestDeedsAreNotWrittenTo(t *testing.T) {
	draw := rand.New(rand.NewSource(39))
	for _, d := range someDesks() {
		list := drawnDeeds(draw, 45)
		before := slices.Clone(list)
		impl.DeskRun(d, list[:40])
		impl.DeskRun(d, list)
		impl.JournalText(list[:40])
		lines := []string{"turn", "", "set 0 0 5", "back", "what", "rest"}
		impl.DeskSay(d, lines[:5])
		if !slices.Equal(list, before) || !slices.Equal(lines, []string{"turn", "", "set 0 0 5", "back", "what", "rest"}) {
			t.Fatalf("%v is %v behind the calls, or %q", before, list, lines)
		}
	}
}
