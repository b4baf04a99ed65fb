package tests

import (
	"math"
	"math/rand"
	"reflect"
	"slices"
	"testing"

	"loop.example/hideandseek/impl"
)

// boxesOf are all lists of so many boxes.
func boxesOf(many int) [][]int {
	if many == 0 {
		return [][]int{{}}
	}
	var list [][]int
	for _, w := range boxesOf(many - 1) {
		for worth := 1; worth <= 9; worth++ {
			list = append(list, append(slices.Clone(w), worth))
		}
	}
	return list
}

// inReverse are boxes in the order from the last one to the first one.
func inReverse(w []int) []int {
	other := slices.Clone(w)
	slices.Reverse(other)
	return other
}

// fewBoxes are all boxes of which the game is solved.
func fewBoxes() [][]int {
	var list [][]int
	for many := 1; many <= 4; many++ {
		list = append(list, boxesOf(many)...)
	}
	return list
}

// manyBoxes are 5 and 6 boxes: all that are worth no less than the one before, these in reverse, and some drawn in other orders.
func manyBoxes() [][]int {
	draw := rand.New(rand.NewSource(29))
	var list [][]int
	for many := 5; many <= 6; many++ {
		for _, w := range boxesOf(many) {
			if slices.IsSorted(w) {
				list = append(list, w, inReverse(w))
			} else if draw.Intn(100) == 0 {
				list = append(list, w)
			}
		}
	}
	return list
}

// boxes are boxes of all numbers.
func boxes() [][]int {
	return append(fewBoxes(), manyBoxes()...)
}

// someBoxes are few enough to ask much of each.
func someBoxes() [][]int {
	return append(append(boxesOf(1), boxesOf(2)...), [][]int{
		{1, 1, 1}, {1, 2, 3}, {2, 3, 6}, {3, 2, 1}, {7, 7, 7}, {2, 4, 8}, {8, 4, 2}, {9, 3, 9}, {5, 7, 9}, {4, 6, 9},
		{1, 1, 1, 1}, {5, 7, 8, 9}, {9, 8, 7, 5}, {6, 6, 6, 6}, {2, 2, 3, 3}, {1, 9, 1, 9},
		{1, 1, 1, 1, 1}, {1, 2, 3, 4, 5}, {5, 6, 7, 8, 9}, {9, 9, 9, 9, 9}, {4, 8, 4, 8, 4},
		{1, 1, 1, 1, 1, 1}, {4, 5, 6, 7, 8, 9}, {9, 8, 7, 6, 5, 4}, {9, 9, 9, 9, 9, 9}, {2, 4, 8, 2, 4, 8}, {1, 5, 1, 7, 1, 9},
	}...)
}

// noWorths are numbers that a box is not worth.
var noWorths = []int{0, -1, -2, -9, -10, 10, 11, 12, 18, 100, math.MaxInt32, math.MinInt32, math.MaxInt, math.MinInt}

// noBoxes are lists that are no boxes: empty ones, ones that are too long, and ones with one number, at each place, that a box is not worth.
func noBoxes() [][]int {
	list := [][]int{nil, {}, make([]int, 0, 6)}
	for _, many := range []int{7, 8, 9, 12, 16, 17, 100} {
		for worth := 1; worth <= 9; worth++ {
			list = append(list, allWeigh(many, worth))
		}
		list = append(list, weightsOf(many, func(at int) int { return 1 + at%9 }))
	}
	for _, worth := range noWorths {
		for many := 1; many <= 7; many++ {
			for at := range many {
				for _, others := range []int{1, 5, 9} {
					w := allWeigh(many, others)
					w[at] = worth
					list = append(list, w)
				}
			}
			list = append(list, allWeigh(many, worth))
		}
	}
	return list
}

// boxGameByHand has what each box is worth where the row and the column are the same.
func boxGameByHand(w []int) [][]int {
	return gameOf(len(w), len(w), func(row int, column int) int {
		if row == column {
			return w[row]
		}
		return 0
	})
}

// multipleByHand tries one multiple of the first box after the other.
func multipleByHand(w []int) int {
	for multiple := w[0]; ; multiple += w[0] {
		if !slices.ContainsFunc(w, func(worth int) bool { return multiple%worth > 0 }) {
			return multiple
		}
	}
}

// boxWorthByHand adds 1 by each worth with 2520 below the line, which all of 1..9 divide, and takes away what is common as long as there is something.
func boxWorthByHand(w []int) impl.Frac {
	up, down := 2520, 0
	for _, worth := range w {
		down += 2520 / worth
	}
	for by := 2; by <= up && by <= down; by++ {
		for up%by == 0 && down%by == 0 {
			up, down = up/by, down/by
		}
	}
	return impl.Frac{Up: up, Down: down}
}

// boxWeightsByHand divides the least multiple.
func boxWeightsByHand(w []int) []int {
	multiple := multipleByHand(w)
	return weightsOf(len(w), func(box int) int { return multiple / w[box] })
}

func TestMaxBoxes(t *testing.T) {
	if impl.MaxBoxes != 6 {
		t.Fatalf("MaxBoxes = %d", impl.MaxBoxes)
	}
}

func TestPromise27OneBoxIsBoxes(t *testing.T) {
	for worth := -20; worth <= 20; worth++ {
		if ok := impl.BoxesOk([]int{worth}); ok != (worth >= 1 && worth <= 9) {
			t.Errorf("BoxesOk([%d]) = %v", worth, ok)
		}
	}
}

func TestPromise27Boxes(t *testing.T) {
	for _, w := range boxes() {
		if !impl.BoxesOk(w) || !impl.BoxesOk(inReverse(w)) {
			t.Fatalf("BoxesOk(%v) = %v, and in reverse %v", w, impl.BoxesOk(w), impl.BoxesOk(inReverse(w)))
		}
	}
	for many := 1; many <= 20; many++ {
		for worth := 1; worth <= 9; worth++ {
			if w := allWeigh(many, worth); impl.BoxesOk(w) != (many <= 6) {
				t.Errorf("BoxesOk(%v) = %v", w, impl.BoxesOk(w))
			}
		}
	}
}

func TestPromise27NoBoxes(t *testing.T) {
	for _, w := range noBoxes() {
		if impl.BoxesOk(w) || impl.BoxesOk(inReverse(w)) {
			t.Errorf("BoxesOk(%v) = %v, and in reverse %v", w, impl.BoxesOk(w), impl.BoxesOk(inReverse(w)))
		}
	}
}

func TestPromise28BoxesAreAGame(t *testing.T) {
	for _, w := range boxes() {
		g := impl.BoxGame(w)
		if !impl.GameOk(g) || !reflect.DeepEqual(g, boxGameByHand(w)) {
			t.Fatalf("BoxGame(%v) = %v", w, g)
		}
		least := slices.Min(w)
		wantFloor := 0
		if len(w) == 1 {
			wantFloor = least
		}
		if floor, row, ok := impl.FloorOf(g); !ok || floor != wantFloor || row != 0 {
			t.Fatalf("the floor of BoxGame(%v) is %d, %d, %v", w, floor, row, ok)
		}
		if roof, column, ok := impl.RoofOf(g); !ok || roof != least || column != slices.Index(w, least) {
			t.Fatalf("the roof of BoxGame(%v) is %d, %d, %v", w, roof, column, ok)
		}
		if other := impl.BoxGame(inReverse(w)); !reflect.DeepEqual(other, backwards(g, true, true)) {
			t.Fatalf("BoxGame(%v) = %v, but in reverse %v", w, g, other)
		}
	}
}

func TestPromise28Examples(t *testing.T) {
	for _, c := range []struct {
		w    []int
		want [][]int
	}{
		{[]int{1}, [][]int{{1}}},
		{[]int{9}, [][]int{{9}}},
		{[]int{2, 3}, [][]int{{2, 0}, {0, 3}}},
		{[]int{3, 2}, [][]int{{3, 0}, {0, 2}}},
		{[]int{1, 1}, [][]int{{1, 0}, {0, 1}}},
		{[]int{2, 3, 6}, [][]int{{2, 0, 0}, {0, 3, 0}, {0, 0, 6}}},
		{[]int{9, 8, 1, 1, 4, 5}, [][]int{{9, 0, 0, 0, 0, 0}, {0, 8, 0, 0, 0, 0}, {0, 0, 1, 0, 0, 0}, {0, 0, 0, 1, 0, 0}, {0, 0, 0, 0, 4, 0}, {0, 0, 0, 0, 0, 5}}},
	} {
		if g := impl.BoxGame(c.w); !reflect.DeepEqual(g, c.want) {
			t.Errorf("BoxGame(%v) = %v, not %v", c.w, g, c.want)
		}
	}
}

func TestPromise28NoBoxes(t *testing.T) {
	for _, w := range noBoxes() {
		if g := impl.BoxGame(w); len(g) > 0 {
			t.Errorf("BoxGame(%v) = %v", w, g)
		}
	}
}

func TestPromise29BoxesAreWorthOneByTheSum(t *testing.T) {
	for _, w := range boxes() {
		worth, ok := impl.BoxWorth(w)
		if want := boxWorthByHand(w); !ok || worth != want || !impl.FracOk(worth) {
			t.Fatalf("BoxWorth(%v) = %v, %v, not %v", w, worth, ok, want)
		}
		for _, one := range w {
			if impl.LessOk(impl.Frac{Up: one, Down: 1}, worth) {
				t.Fatalf("BoxWorth(%v) = %v, but one is worth less", w, worth)
			}
		}
		if other, ok := impl.BoxWorth(inReverse(w)); !ok || other != worth {
			t.Fatalf("BoxWorth(%v) = %v, but in reverse %v, %v", w, worth, other, ok)
		}
	}
}

func TestPromise29BoxesAreWorthWhatTheirGameIs(t *testing.T) {
	for _, w := range fewBoxes() {
		worth, ok := impl.BoxWorth(w)
		if f, told := impl.WorthOf(impl.BoxGame(w)); !ok || !told || worth != f {
			t.Fatalf("BoxWorth(%v) = %v, %v, but their game is worth %v, %v", w, worth, ok, f, told)
		}
	}
}

func TestPromise29ByTheSumOfFractions(t *testing.T) {
	for _, w := range boxes() {
		sum := impl.Frac{Up: 0, Down: 1}
		for _, one := range w {
			part, _ := impl.FracOf(1, one)
			sum, _ = impl.PlusOf(sum, part)
		}
		worth, ok := impl.BoxWorth(w)
		if want := (impl.Frac{Up: sum.Down, Down: sum.Up}); !ok || worth != want {
			t.Fatalf("BoxWorth(%v) = %v, %v, not %v", w, worth, ok, want)
		}
	}
}

func TestPromise29Examples(t *testing.T) {
	for _, c := range []struct {
		w        []int
		up, down int
	}{
		{[]int{1}, 1, 1},
		{[]int{5}, 5, 1},
		{[]int{9}, 9, 1},
		{[]int{1, 1}, 1, 2},
		{[]int{2, 2}, 1, 1},
		{[]int{2, 3}, 6, 5},
		{[]int{2, 4}, 4, 3},
		{[]int{2, 3, 6}, 1, 1},
		{[]int{6, 3, 2}, 1, 1},
		{[]int{3, 6, 9}, 18, 11},
		{[]int{5, 7, 8, 9}, 2520, 1459},
		{[]int{9, 9, 9, 9, 9}, 9, 5},
		{[]int{1, 1, 1, 1, 1, 1}, 1, 6},
		{[]int{9, 9, 9, 9, 9, 9}, 3, 2},
		{[]int{4, 5, 6, 7, 8, 9}, 2520, 2509},
	} {
		if f, ok := impl.BoxWorth(c.w); !ok || f != (impl.Frac{Up: c.up, Down: c.down}) {
			t.Errorf("BoxWorth(%v) = %v, %v, not %d/%d", c.w, f, ok, c.up, c.down)
		}
	}
}

func TestPromise29NoBoxes(t *testing.T) {
	for _, w := range noBoxes() {
		if f, ok := impl.BoxWorth(w); ok || f != (impl.Frac{}) {
			t.Errorf("BoxWorth(%v) = %v, %v", w, f, ok)
		}
	}
}

func TestPromise30AllBoxesAreAsGood(t *testing.T) {
	for _, w := range boxes() {
		x := impl.BoxWeights(w)
		if !impl.MixOk(x, len(w)) || !slices.Equal(x, boxWeightsByHand(w)) {
			t.Fatalf("BoxWeights(%v) = %v, not %v", w, x, boxWeightsByHand(w))
		}
		for box, worth := range w {
			if worth*x[box] != w[0]*x[0] {
				t.Fatalf("BoxWeights(%v) = %v: the box %d is not as good as the box 0", w, x, box)
			}
		}
		if other := impl.BoxWeights(inReverse(w)); !slices.Equal(other, inReverse(x)) {
			t.Fatalf("BoxWeights(%v) = %v, but in reverse %v", w, x, other)
		}
	}
}

func TestPromise30WeightsAreSettled(t *testing.T) {
	for _, w := range boxes() {
		g, x := impl.BoxGame(w), impl.BoxWeights(w)
		if !impl.SettledOk(g, x, x) {
			t.Fatalf("BoxWeights(%v) = %v, which are not settled", w, x)
		}
		worth, _ := impl.BoxWorth(w)
		if safe, ok := impl.SafeOf(g, x); !ok || safe != worth {
			t.Fatalf("BoxWeights(%v) = %v, which are safe for %v, %v, but they are worth %v", w, x, safe, ok, worth)
		}
		if risk, ok := impl.RiskOf(g, x); !ok || risk != worth {
			t.Fatalf("BoxWeights(%v) = %v, which risk %v, %v, but they are worth %v", w, x, risk, ok, worth)
		}
	}
}

func TestPromise30BoxesThatAreWorthAsMuch(t *testing.T) {
	for _, w := range boxes() {
		x := impl.BoxWeights(w)
		for box, worth := range w {
			if first := slices.Index(w, worth); x[box] != x[first] {
				t.Fatalf("BoxWeights(%v) = %v: the box %d is not chosen as often as the box %d", w, x, box, first)
			}
		}
	}
}

func TestPromise30Examples(t *testing.T) {
	for _, c := range []struct{ w, want []int }{
		{[]int{1}, []int{1}},
		{[]int{7}, []int{1}},
		{[]int{9}, []int{1}},
		{[]int{1, 1}, []int{1, 1}},
		{[]int{1, 9}, []int{9, 1}},
		{[]int{6, 6}, []int{1, 1}},
		{[]int{2, 3}, []int{3, 2}},
		{[]int{2, 4}, []int{2, 1}},
		{[]int{4, 6}, []int{3, 2}},
		{[]int{8, 9}, []int{9, 8}},
		{[]int{2, 3, 6}, []int{3, 2, 1}},
		{[]int{6, 3, 2}, []int{1, 2, 3}},
		{[]int{2, 4, 8}, []int{4, 2, 1}},
		{[]int{4, 6, 9}, []int{9, 6, 4}},
		{[]int{1, 2, 1, 4}, []int{4, 2, 4, 1}},
		{[]int{5, 7, 8, 9}, []int{504, 360, 315, 280}},
		{[]int{9, 8, 7, 5, 6, 4}, []int{280, 315, 360, 504, 420, 630}},
		{[]int{1, 1, 1, 1, 1, 1}, []int{1, 1, 1, 1, 1, 1}},
		{[]int{8, 8, 8, 8, 8, 8}, []int{1, 1, 1, 1, 1, 1}},
		{[]int{1, 5, 7, 8, 9, 1}, []int{2520, 504, 360, 315, 280, 2520}},
	} {
		if x := impl.BoxWeights(c.w); !slices.Equal(x, c.want) {
			t.Errorf("BoxWeights(%v) = %v, not %v", c.w, x, c.want)
		}
	}
}

func TestPromise30NoBoxes(t *testing.T) {
	for _, w := range noBoxes() {
		if x := impl.BoxWeights(w); len(x) > 0 {
			t.Errorf("BoxWeights(%v) = %v", w, x)
		}
	}
}

// testFurther checks what a further box leads to.
func testFurther(t *testing.T, w []int, worth int) {
	t.Helper()
	more, ok := impl.WithBox(w, worth)
	if ok != (len(w) < 6) || !ok && len(more) > 0 {
		t.Fatalf("WithBox(%v, %d) = %v, %v", w, worth, more, ok)
	}
	if !ok {
		return
	}
	if want := append(slices.Clone(w), worth); !slices.Equal(more, want) || !impl.BoxesOk(more) {
		t.Fatalf("WithBox(%v, %d) = %v, not %v", w, worth, more, want)
	}
	before, _ := impl.BoxWorth(w)
	if behind, ok := impl.BoxWorth(more); !ok || !impl.LessOk(behind, before) {
		t.Fatalf("%v are worth %v, but with a box worth %d %v, %v", w, before, worth, behind, ok)
	}
}

func TestPromise31WithAFurtherBoxItIsWorthLess(t *testing.T) {
	for _, w := range boxes() {
		for worth := 1; worth <= 9; worth++ {
			testFurther(t, w, worth)
		}
	}
}

func TestPromise31OneByOne(t *testing.T) {
	for worth := 1; worth <= 9; worth++ {
		w := []int{worth}
		for many := 2; many <= 6; many++ {
			more, ok := impl.WithBox(w, worth)
			if !ok || !slices.Equal(more, allWeigh(many, worth)) {
				t.Fatalf("WithBox(%v, %d) = %v, %v", w, worth, more, ok)
			}
			w = more
		}
		if more, ok := impl.WithBox(w, worth); ok || len(more) > 0 {
			t.Fatalf("WithBox(%v, %d) = %v, %v", w, worth, more, ok)
		}
	}
}

func TestPromise31Examples(t *testing.T) {
	for _, c := range []struct {
		w     []int
		worth int
		want  []int
	}{
		{[]int{2}, 5, []int{2, 5}},
		{[]int{2}, 1, []int{2, 1}},
		{[]int{1}, 9, []int{1, 9}},
		{[]int{2, 3}, 6, []int{2, 3, 6}},
		{[]int{9, 8, 7}, 9, []int{9, 8, 7, 9}},
		{[]int{1, 2, 3, 4, 5}, 6, []int{1, 2, 3, 4, 5, 6}},
		{[]int{1, 2, 3, 4, 5, 6}, 7, nil},
		{[]int{2}, 0, nil},
		{[]int{2}, -5, nil},
		{[]int{2}, 10, nil},
		{[]int{0}, 5, nil},
		{[]int{10}, 5, nil},
		{[]int{2, -1}, 5, nil},
		{nil, 5, nil},
		{[]int{}, 5, nil},
	} {
		more, ok := impl.WithBox(c.w, c.worth)
		if ok != (c.want != nil) || !slices.Equal(more, c.want) {
			t.Errorf("WithBox(%v, %d) = %v, %v, not %v", c.w, c.worth, more, ok, c.want)
		}
	}
}

func TestPromise31NoFurtherBox(t *testing.T) {
	for _, w := range someBoxes() {
		for _, worth := range noWorths {
			if more, ok := impl.WithBox(w, worth); ok || len(more) > 0 {
				t.Errorf("WithBox(%v, %d) = %v, %v", w, worth, more, ok)
			}
		}
	}
}

func TestPromise31NoBoxes(t *testing.T) {
	for _, w := range noBoxes() {
		for worth := -1; worth <= 11; worth++ {
			if more, ok := impl.WithBox(w, worth); ok || len(more) > 0 {
				t.Errorf("WithBox(%v, %d) = %v, %v", w, worth, more, ok)
			}
		}
	}
}

func TestBoxesAreNotWrittenTo(t *testing.T) {
	for _, w := range slices.Concat(someBoxes(), noBoxes()) {
		lists, whole := roomy([][]int{w})
		before := wholeOf(whole)
		given := lists[0]
		impl.BoxesOk(given)
		impl.BoxGame(given)
		impl.BoxWorth(given)
		impl.BoxWeights(given)
		for _, worth := range []int{-1, 0, 1, 5, 9, 10} {
			impl.WithBox(given, worth)
		}
		if after := wholeOf(whole); !reflect.DeepEqual(after, before) {
			t.Fatalf("%v is %v behind the calls", before, after)
		}
	}
}

func TestBoxesShareNoMemory(t *testing.T) {
	for _, w := range someBoxes() {
		lists, whole := roomy([][]int{w})
		testApart(t, whole, impl.BoxGame(lists[0]), impl.BoxGame(lists[0]))
		lists, whole = roomy([][]int{w})
		if !apart(append(whole, impl.BoxWeights(lists[0]), impl.BoxWeights(lists[0]))...) {
			t.Fatalf("BoxWeights(%v) shares memory", w)
		}
		lists, whole = roomy([][]int{w})
		first, _ := impl.WithBox(lists[0], 5)
		second, _ := impl.WithBox(lists[0], 5)
		if !apart(append(whole, first, second)...) {
			t.Fatalf("WithBox(%v, 5) shares memory", w)
		}
	}
}
