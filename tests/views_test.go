package tests

import (
	"math"
	"math/bits"
	"reflect"
	"slices"
	"testing"

	"loop.example/hideandseek/impl"
)

// view tells how many cells there are, and how many of them a window shows.
type view struct{ cells, wide int }

// views are all cells with all windows.
func views() []view {
	var list []view
	for cells := 1; cells <= 16; cells++ {
		for wide := 1; wide <= cells; wide++ {
			list = append(list, view{cells, wide})
		}
	}
	return list
}

// farNumbers are very large and very small ones, some of which are 4, 8 or 16 in their low bits.
var farNumbers = []int{
	100, 256 + 4, 256 + 16, 65536 + 4, 65536 + 16, 1000000000, math.MaxInt32 - 1, math.MaxInt32, math.MaxInt - 15, math.MaxInt - 1, math.MaxInt,
	-100, -256 + 4, -256 + 16, -65536 + 4, -1000000000, math.MinInt32 + 4, math.MinInt32, math.MinInt + 16, math.MinInt + 8, math.MinInt + 4, math.MinInt + 1, math.MinInt,
}

// noViews are numbers of which cells, windows or both are none, or windows of more cells than there are.
func noViews() []view {
	var list []view
	for cells := -20; cells <= 40; cells++ {
		for wide := -20; wide <= 40; wide++ {
			if cells < 1 || cells > 16 || wide < 1 || wide > cells {
				list = append(list, view{cells, wide})
			}
		}
	}
	for _, far := range farNumbers {
		for near := -20; near <= 20; near++ {
			list = append(list, view{far, near}, view{near, far})
		}
		for _, other := range farNumbers {
			list = append(list, view{far, other})
		}
	}
	return list
}

// oneOrNone is 1 if something holds, and else 0.
func oneOrNone(holds bool) int {
	if holds {
		return 1
	}
	return 0
}

// windowGameByHand has 1 from the first cell of a window on, as far as it is wide.
func windowGameByHand(v view) [][]int {
	return gameOf(v.cells-v.wide+1, v.cells, func(window int, cell int) int {
		return oneOrNone(window <= cell && cell < window+v.wide)
	})
}

// ringGameByHand turns the first window by one cell again and again: the last cell comes to the front.
func ringGameByHand(v view) [][]int {
	window := slices.Concat(allWeigh(v.wide, 1), allWeigh(v.cells-v.wide, 0))
	var g [][]int
	for range v.cells {
		g = append(g, window)
		window = slices.Concat(window[v.cells-1:], window[:v.cells-1])
	}
	return g
}

// shownByHand are the sets of cells that the windows of a row show.
func shownByHand(v view) []uint {
	var list []uint
	for first := 0; first+v.wide <= v.cells; first++ {
		list = append(list, (1<<v.wide-1)<<first)
	}
	return list
}

// fewestByHand tries all sets of windows, and takes the least number of them that show all cells.
func fewestByHand(v view) int {
	windows := shownByHand(v)
	fewest := len(windows)
	for set := range uint(1) << len(windows) {
		var shown uint
		for i, window := range windows {
			if set>>i&1 == 1 {
				shown |= window
			}
		}
		if shown == 1<<v.cells-1 {
			fewest = min(fewest, bits.OnesCount(set))
		}
	}
	return fewest
}

// mostByHand tries all sets of cells, and takes the greatest number of them of which no window shows two.
func mostByHand(v view) int {
	windows, most := shownByHand(v), 0
	for set := range uint(1) << v.cells {
		if !slices.ContainsFunc(windows, func(window uint) bool { return bits.OnesCount(set&window) > 1 }) {
			most = max(most, bits.OnesCount(set))
		}
	}
	return most
}

// lookPlanByHand lays windows one beside the other, and the last one over them if cells are left.
func lookPlanByHand(v view) []int {
	last := v.cells - v.wide
	return weightsOf(last+1, func(window int) int {
		return oneOrNone(window%v.wide == 0 || window == last && v.cells%v.wide > 0)
	})
}

// hidePlanByHand takes the cells that the wide divides.
func hidePlanByHand(v view) []int {
	return weightsOf(v.cells, func(cell int) int { return oneOrNone(cell%v.wide == 0) })
}

// total is the sum of all weights.
func total(x []int) int {
	sum := 0
	for _, weight := range x {
		sum += weight
	}
	return sum
}

// oneBy is 1 by a number.
func oneBy(many int) impl.Frac {
	return impl.Frac{Up: 1, Down: many}
}

func TestPromise32WindowsAreAGame(t *testing.T) {
	for _, v := range views() {
		g := impl.WindowGame(v.cells, v.wide)
		if !impl.GameOk(g) || !reflect.DeepEqual(g, windowGameByHand(v)) {
			t.Errorf("WindowGame(%d, %d) = %v", v.cells, v.wide, g)
		}
		for window, row := range g {
			if total(row) != v.wide {
				t.Errorf("WindowGame(%d, %d): the window %d shows %d cells", v.cells, v.wide, window, total(row))
			}
		}
		if other := backwards(g, true, true); !reflect.DeepEqual(g, other) {
			t.Errorf("WindowGame(%d, %d) = %v, but from the end %v", v.cells, v.wide, g, other)
		}
	}
}

func TestPromise32WindowsAreWorthOneByHowMany(t *testing.T) {
	solved := 0
	for _, v := range views() {
		f, ok := impl.WorthOf(impl.WindowGame(v.cells, v.wide))
		if ok != (v.cells <= 4) {
			t.Errorf("WorthOf(WindowGame(%d, %d)) = %v, %v", v.cells, v.wide, f, ok)
		}
		if !ok {
			continue
		}
		solved++
		if want := oneBy(impl.WindowsFor(v.cells, v.wide)); f != want {
			t.Errorf("WorthOf(WindowGame(%d, %d)) = %v, not %v", v.cells, v.wide, f, want)
		}
	}
	if solved != 10 {
		t.Fatalf("%d games of windows are solved", solved)
	}
}

// TestPromise32SmallerGamesOfWindows solves games of more cells, from which what is worse is taken away: they are worth as much.
func TestPromise32SmallerGamesOfWindows(t *testing.T) {
	solved := 0
	for _, v := range views() {
		f, ok := impl.WorthOf(impl.SmallerOf(impl.WindowGame(v.cells, v.wide)))
		if !ok {
			continue
		}
		solved++
		if want := oneBy(impl.WindowsFor(v.cells, v.wide)); f != want {
			t.Errorf("the game WindowGame(%d, %d), made smaller, is worth %v, not %v", v.cells, v.wide, f, want)
		}
	}
	if solved < 100 {
		t.Fatalf("%d games of windows are solved", solved)
	}
}

func TestPromise32Examples(t *testing.T) {
	for _, c := range []struct {
		cells, wide int
		want        [][]int
	}{
		{1, 1, [][]int{{1}}},
		{2, 1, [][]int{{1, 0}, {0, 1}}},
		{2, 2, [][]int{{1, 1}}},
		{3, 1, [][]int{{1, 0, 0}, {0, 1, 0}, {0, 0, 1}}},
		{3, 2, [][]int{{1, 1, 0}, {0, 1, 1}}},
		{3, 3, [][]int{{1, 1, 1}}},
		{4, 3, [][]int{{1, 1, 1, 0}, {0, 1, 1, 1}}},
		{5, 2, [][]int{{1, 1, 0, 0, 0}, {0, 1, 1, 0, 0}, {0, 0, 1, 1, 0}, {0, 0, 0, 1, 1}}},
		{6, 4, [][]int{{1, 1, 1, 1, 0, 0}, {0, 1, 1, 1, 1, 0}, {0, 0, 1, 1, 1, 1}}},
		{16, 16, [][]int{allWeigh(16, 1)}},
		{16, 15, [][]int{{1, 1, 1, 1, 1, 1, 1, 1, 1, 1, 1, 1, 1, 1, 1, 0}, {0, 1, 1, 1, 1, 1, 1, 1, 1, 1, 1, 1, 1, 1, 1, 1}}},
	} {
		if g := impl.WindowGame(c.cells, c.wide); !reflect.DeepEqual(g, c.want) {
			t.Errorf("WindowGame(%d, %d) = %v, not %v", c.cells, c.wide, g, c.want)
		}
	}
	if g := impl.WindowGame(16, 1); len(g) != 16 || len(g[0]) != 16 {
		t.Errorf("WindowGame(16, 1) = %v", g)
	}
}

func TestPromise32NoViews(t *testing.T) {
	for _, v := range noViews() {
		if g := impl.WindowGame(v.cells, v.wide); len(g) > 0 {
			t.Errorf("WindowGame(%d, %d) = %v", v.cells, v.wide, g)
		}
	}
}

func TestPromise33AsManyWindowsAsCellsThatAreApart(t *testing.T) {
	for _, v := range views() {
		many := impl.WindowsFor(v.cells, v.wide)
		if look := impl.LookPlan(v.cells, v.wide); total(look) != many || slices.Max(look) != 1 {
			t.Errorf("WindowsFor(%d, %d) = %d, but LookPlan = %v", v.cells, v.wide, many, look)
		}
		if hide := impl.HidePlan(v.cells, v.wide); total(hide) != many || slices.Max(hide) != 1 {
			t.Errorf("WindowsFor(%d, %d) = %d, but HidePlan = %v", v.cells, v.wide, many, hide)
		}
	}
}

func TestPromise33FewestWindowsAndMostCells(t *testing.T) {
	for _, v := range views() {
		many := impl.WindowsFor(v.cells, v.wide)
		if fewest, most := fewestByHand(v), mostByHand(v); many != fewest || many != most {
			t.Errorf("WindowsFor(%d, %d) = %d, but %d windows show all cells, and %d cells are apart", v.cells, v.wide, many, fewest, most)
		}
	}
}

func TestPromise33Examples(t *testing.T) {
	for _, c := range []struct{ cells, wide, want int }{
		{1, 1, 1}, {2, 1, 2}, {2, 2, 1}, {3, 1, 3}, {3, 2, 2}, {3, 3, 1},
		{6, 3, 2}, {7, 3, 3}, {8, 3, 3}, {9, 3, 3}, {10, 3, 4}, {7, 6, 2}, {7, 7, 1},
		{12, 4, 3}, {13, 4, 4}, {15, 2, 8}, {15, 14, 2}, {15, 15, 1},
		{16, 1, 16}, {16, 2, 8}, {16, 3, 6}, {16, 4, 4}, {16, 5, 4}, {16, 6, 3}, {16, 7, 3}, {16, 8, 2}, {16, 9, 2}, {16, 15, 2}, {16, 16, 1},
	} {
		if many := impl.WindowsFor(c.cells, c.wide); many != c.want {
			t.Errorf("WindowsFor(%d, %d) = %d, not %d", c.cells, c.wide, many, c.want)
		}
	}
}

func TestPromise33NoViews(t *testing.T) {
	for _, v := range noViews() {
		if many := impl.WindowsFor(v.cells, v.wide); many != -1 {
			t.Errorf("WindowsFor(%d, %d) = %d", v.cells, v.wide, many)
		}
	}
}

func TestPromise34WindowsShowAllCells(t *testing.T) {
	for _, v := range views() {
		g, look := impl.WindowGame(v.cells, v.wide), impl.LookPlan(v.cells, v.wide)
		if !impl.MixOk(look, len(g)) || !slices.Equal(look, lookPlanByHand(v)) {
			t.Fatalf("LookPlan(%d, %d) = %v, not %v", v.cells, v.wide, look, lookPlanByHand(v))
		}
		for cell := range v.cells {
			shown := 0
			for window := range g {
				shown += look[window] * g[window][cell]
			}
			if shown < 1 {
				t.Errorf("LookPlan(%d, %d) = %v: no window shows the cell %d", v.cells, v.wide, look, cell)
			}
		}
		if safe, ok := impl.SafeOf(g, look); !ok || safe != oneBy(impl.WindowsFor(v.cells, v.wide)) {
			t.Errorf("LookPlan(%d, %d) = %v is safe for %v, %v", v.cells, v.wide, look, safe, ok)
		}
	}
}

func TestPromise34Examples(t *testing.T) {
	for _, c := range []struct {
		cells, wide int
		want        []int
	}{
		{1, 1, []int{1}},
		{2, 1, []int{1, 1}},
		{2, 2, []int{1}},
		{3, 2, []int{1, 1}},
		{4, 2, []int{1, 0, 1}},
		{4, 3, []int{1, 1}},
		{5, 2, []int{1, 0, 1, 1}},
		{6, 3, []int{1, 0, 0, 1}},
		{7, 3, []int{1, 0, 0, 1, 1}},
		{8, 3, []int{1, 0, 0, 1, 0, 1}},
		{9, 3, []int{1, 0, 0, 1, 0, 0, 1}},
		{6, 4, []int{1, 0, 1}},
		{7, 7, []int{1}},
		{16, 1, allWeigh(16, 1)},
		{16, 5, []int{1, 0, 0, 0, 0, 1, 0, 0, 0, 0, 1, 1}},
		{16, 7, []int{1, 0, 0, 0, 0, 0, 0, 1, 0, 1}},
		{16, 8, []int{1, 0, 0, 0, 0, 0, 0, 0, 1}},
		{16, 9, []int{1, 0, 0, 0, 0, 0, 0, 1}},
		{16, 15, []int{1, 1}},
		{16, 16, []int{1}},
	} {
		if look := impl.LookPlan(c.cells, c.wide); !slices.Equal(look, c.want) {
			t.Errorf("LookPlan(%d, %d) = %v, not %v", c.cells, c.wide, look, c.want)
		}
	}
}

func TestPromise34NoViews(t *testing.T) {
	for _, v := range noViews() {
		if look := impl.LookPlan(v.cells, v.wide); len(look) > 0 {
			t.Errorf("LookPlan(%d, %d) = %v", v.cells, v.wide, look)
		}
	}
}

func TestPromise35NoWindowShowsTwoCells(t *testing.T) {
	for _, v := range views() {
		g, hide := impl.WindowGame(v.cells, v.wide), impl.HidePlan(v.cells, v.wide)
		if !impl.MixOk(hide, v.cells) || !slices.Equal(hide, hidePlanByHand(v)) {
			t.Fatalf("HidePlan(%d, %d) = %v, not %v", v.cells, v.wide, hide, hidePlanByHand(v))
		}
		for window, row := range g {
			shown := 0
			for cell, shows := range row {
				shown += shows * hide[cell]
			}
			if shown > 1 {
				t.Errorf("HidePlan(%d, %d) = %v: the window %d shows %d", v.cells, v.wide, hide, window, shown)
			}
		}
		if risk, ok := impl.RiskOf(g, hide); !ok || risk != oneBy(impl.WindowsFor(v.cells, v.wide)) {
			t.Errorf("HidePlan(%d, %d) = %v risks %v, %v", v.cells, v.wide, hide, risk, ok)
		}
	}
}

func TestPromise35BothPlansAreSettled(t *testing.T) {
	for _, v := range views() {
		look, hide := impl.LookPlan(v.cells, v.wide), impl.HidePlan(v.cells, v.wide)
		if !impl.SettledOk(impl.WindowGame(v.cells, v.wide), look, hide) {
			t.Errorf("for %d cells and windows of %d, %v and %v are not settled", v.cells, v.wide, look, hide)
		}
	}
}

func TestPromise35Examples(t *testing.T) {
	for _, c := range []struct {
		cells, wide int
		want        []int
	}{
		{1, 1, []int{1}},
		{2, 1, []int{1, 1}},
		{2, 2, []int{1, 0}},
		{3, 2, []int{1, 0, 1}},
		{3, 3, []int{1, 0, 0}},
		{4, 2, []int{1, 0, 1, 0}},
		{4, 3, []int{1, 0, 0, 1}},
		{6, 3, []int{1, 0, 0, 1, 0, 0}},
		{7, 3, []int{1, 0, 0, 1, 0, 0, 1}},
		{8, 3, []int{1, 0, 0, 1, 0, 0, 1, 0}},
		{6, 4, []int{1, 0, 0, 0, 1, 0}},
		{16, 1, allWeigh(16, 1)},
		{16, 5, []int{1, 0, 0, 0, 0, 1, 0, 0, 0, 0, 1, 0, 0, 0, 0, 1}},
		{16, 8, []int{1, 0, 0, 0, 0, 0, 0, 0, 1, 0, 0, 0, 0, 0, 0, 0}},
		{16, 9, []int{1, 0, 0, 0, 0, 0, 0, 0, 0, 1, 0, 0, 0, 0, 0, 0}},
		{16, 15, []int{1, 0, 0, 0, 0, 0, 0, 0, 0, 0, 0, 0, 0, 0, 0, 1}},
		{16, 16, oneWeighs(16, 0, 1)},
	} {
		if hide := impl.HidePlan(c.cells, c.wide); !slices.Equal(hide, c.want) {
			t.Errorf("HidePlan(%d, %d) = %v, not %v", c.cells, c.wide, hide, c.want)
		}
	}
}

func TestPromise35NoViews(t *testing.T) {
	for _, v := range noViews() {
		if hide := impl.HidePlan(v.cells, v.wide); len(hide) > 0 {
			t.Errorf("HidePlan(%d, %d) = %v", v.cells, v.wide, hide)
		}
	}
}

func TestPromise36RingsAreAGame(t *testing.T) {
	for _, v := range views() {
		g := impl.RingGame(v.cells, v.wide)
		if !impl.GameOk(g) || !reflect.DeepEqual(g, ringGameByHand(v)) {
			t.Errorf("RingGame(%d, %d) = %v, not %v", v.cells, v.wide, g, ringGameByHand(v))
		}
		for at := range g {
			if row, column := total(g[at]), total(columnByHand(g, at)); row != v.wide || column != v.wide {
				t.Errorf("RingGame(%d, %d): the window %d shows %d cells, and %d windows show this cell", v.cells, v.wide, at, row, column)
			}
		}
		if row := impl.WindowGame(v.cells, v.wide); !reflect.DeepEqual(g[:len(row)], row) {
			t.Errorf("RingGame(%d, %d) = %v, but windows that do not go round are %v", v.cells, v.wide, g, row)
		}
	}
}

func TestPromise36AllWindowsAreAlike(t *testing.T) {
	for _, v := range views() {
		g := impl.RingGame(v.cells, v.wide)
		want, _ := impl.FracOf(v.wide, v.cells)
		for _, weight := range []int{1, 2, 100000} {
			all := allWeigh(v.cells, weight)
			if !impl.SettledOk(g, all, all) {
				t.Errorf("RingGame(%d, %d): all alike is not settled", v.cells, v.wide)
			}
			if safe, ok := impl.SafeOf(g, all); !ok || safe != want {
				t.Errorf("RingGame(%d, %d): all windows alike are safe for %v, %v", v.cells, v.wide, safe, ok)
			}
			if risk, ok := impl.RiskOf(g, all); !ok || risk != want {
				t.Errorf("RingGame(%d, %d): all cells alike risk %v, %v", v.cells, v.wide, risk, ok)
			}
		}
		if f, ok := impl.WorthOf(g); ok != (v.cells <= 4) || ok && f != want {
			t.Errorf("WorthOf(RingGame(%d, %d)) = %v, %v, not %v", v.cells, v.wide, f, ok, want)
		}
	}
}

// TestPromise36NotLessThanOnARow also tells when a ring is worth more: just if the last window of the row is pushed back.
func TestPromise36NotLessThanOnARow(t *testing.T) {
	for _, v := range views() {
		ring, _ := impl.SafeOf(impl.RingGame(v.cells, v.wide), allWeigh(v.cells, 1))
		row := oneBy(impl.WindowsFor(v.cells, v.wide))
		if impl.LessOk(ring, row) || impl.LessOk(row, ring) != (v.cells%v.wide > 0) {
			t.Errorf("for %d cells and windows of %d a ring is worth %v, and a row %v", v.cells, v.wide, ring, row)
		}
	}
}

func TestPromise36Examples(t *testing.T) {
	for _, c := range []struct {
		cells, wide int
		want        [][]int
	}{
		{1, 1, [][]int{{1}}},
		{2, 1, [][]int{{1, 0}, {0, 1}}},
		{2, 2, [][]int{{1, 1}, {1, 1}}},
		{3, 1, [][]int{{1, 0, 0}, {0, 1, 0}, {0, 0, 1}}},
		{3, 2, [][]int{{1, 1, 0}, {0, 1, 1}, {1, 0, 1}}},
		{3, 3, [][]int{{1, 1, 1}, {1, 1, 1}, {1, 1, 1}}},
		{4, 3, [][]int{{1, 1, 1, 0}, {0, 1, 1, 1}, {1, 0, 1, 1}, {1, 1, 0, 1}}},
		{5, 2, [][]int{{1, 1, 0, 0, 0}, {0, 1, 1, 0, 0}, {0, 0, 1, 1, 0}, {0, 0, 0, 1, 1}, {1, 0, 0, 0, 1}}},
		{5, 3, [][]int{{1, 1, 1, 0, 0}, {0, 1, 1, 1, 0}, {0, 0, 1, 1, 1}, {1, 0, 0, 1, 1}, {1, 1, 0, 0, 1}}},
		{16, 16, alike(16, 16, 1)},
	} {
		if g := impl.RingGame(c.cells, c.wide); !reflect.DeepEqual(g, c.want) {
			t.Errorf("RingGame(%d, %d) = %v, not %v", c.cells, c.wide, g, c.want)
		}
	}
}

func TestPromise36NoViews(t *testing.T) {
	for _, v := range noViews() {
		if g := impl.RingGame(v.cells, v.wide); len(g) > 0 {
			t.Errorf("RingGame(%d, %d) = %v", v.cells, v.wide, g)
		}
	}
}

func TestViewsShareNoMemory(t *testing.T) {
	for _, v := range views() {
		testApart(t, nil, impl.WindowGame(v.cells, v.wide), impl.WindowGame(v.cells, v.wide))
		testApart(t, nil, impl.RingGame(v.cells, v.wide), impl.RingGame(v.cells, v.wide))
		testApart(t, nil, impl.WindowGame(v.cells, v.wide), impl.RingGame(v.cells, v.wide))
		look, hide := impl.LookPlan(v.cells, v.wide), impl.HidePlan(v.cells, v.wide)
		if !apart(look, hide, impl.LookPlan(v.cells, v.wide), impl.HidePlan(v.cells, v.wide)) {
			t.Fatalf("plans for %d cells and windows of %d share memory", v.cells, v.wide)
		}
	}
}

// TestViewsAreAsBefore overwrites what was returned, and asks again.
func TestViewsAreAsBefore(t *testing.T) {
	for _, v := range views() {
		spoil(impl.WindowGame(v.cells, v.wide))
		spoil(impl.RingGame(v.cells, v.wide))
		spoil([][]int{impl.LookPlan(v.cells, v.wide), impl.HidePlan(v.cells, v.wide)})
	}
	for _, v := range views() {
		if !reflect.DeepEqual(impl.WindowGame(v.cells, v.wide), windowGameByHand(v)) || !reflect.DeepEqual(impl.RingGame(v.cells, v.wide), ringGameByHand(v)) {
			t.Errorf("the games of %d cells and windows of %d have changed", v.cells, v.wide)
		}
		if !slices.Equal(impl.LookPlan(v.cells, v.wide), lookPlanByHand(v)) || !slices.Equal(impl.HidePlan(v.cells, v.wide), hidePlanByHand(v)) {
			t.Errorf("the plans for %d cells and windows of %d have changed", v.cells, v.wide)
		}
	}
}
