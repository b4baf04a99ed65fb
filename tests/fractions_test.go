package tests

import (
	"math"
	"math/big"
	"strings"
	"testing"

	"loop.example/hideandseek/impl"
)

// extremeParts are numbers at, within and beyond the bounds of the document, and the smallest and greatest ones of the type.
func extremeParts() []int {
	list := []int{0}
	for _, n := range []int{999999937, 999999998, 999999999, 1000000000, 1000000001, 2000000000, math.MaxInt} {
		list = append(list, n, -n)
	}
	return append(list, math.MinInt, math.MinInt+1, 500000000, -500000000)
}

// parts are the numbers that the tests put above and below the line, in all pairs.
func parts() []int {
	list := extremeParts()
	for n := 1; n <= 12; n++ {
		list = append(list, n, -n)
	}
	return append(list, 65536, 46341, 999983, -999983)
}

// allowed tells by big numbers alone whether f is a fraction, as a second way beside the one of the program.
func allowed(f impl.Frac) bool {
	if f.Up < -1000000000 || f.Up > 1000000000 || f.Down < 1 || f.Down > 1000000000 {
		return false
	}
	r := big.NewRat(int64(f.Up), int64(f.Down))
	return r.Num().Int64() == int64(f.Up) && r.Denom().Int64() == int64(f.Down)
}

func ratOf(f impl.Frac) *big.Rat {
	return big.NewRat(int64(f.Up), int64(f.Down))
}

// fracOfRat returns the fraction that r is, and whether it has parts within the bounds.
func fracOfRat(r *big.Rat) (impl.Frac, bool) {
	bound := big.NewInt(1000000000)
	if r.Num().CmpAbs(bound) > 0 || r.Denom().CmpAbs(bound) > 0 {
		return impl.Frac{}, false
	}
	return impl.Frac{Up: int(r.Num().Int64()), Down: int(r.Denom().Int64())}, true
}

// pairs are all pairs of parts, most of which are no fractions.
func pairs() []impl.Frac {
	var list []impl.Frac
	for _, up := range parts() {
		for _, down := range parts() {
			list = append(list, impl.Frac{Up: up, Down: down})
		}
	}
	return list
}

// fractions are those of all pairs that the document allows.
func fractions() []impl.Frac {
	var list []impl.Frac
	for _, f := range pairs() {
		if allowed(f) {
			list = append(list, f)
		}
	}
	return list
}

// noFractions break one rule each, so that a check that is left out is seen.
func noFractions() []impl.Frac {
	return []impl.Frac{
		{},
		{Up: 0, Down: 2},
		{Up: 0, Down: -1},
		{Up: 1, Down: 0},
		{Up: -1, Down: 0},
		{Up: 1, Down: -1},
		{Up: -1, Down: -1},
		{Up: 1, Down: -2},
		{Up: 2, Down: 4},
		{Up: -2, Down: 4},
		{Up: 3, Down: 3},
		{Up: 1000000000, Down: 1000000000},
		{Up: -1000000000, Down: 2},
		{Up: 1000000001, Down: 1},
		{Up: -1000000001, Down: 1},
		{Up: 1, Down: 1000000001},
		{Up: 1, Down: -1000000000},
		{Up: math.MaxInt, Down: 1},
		{Up: math.MinInt, Down: 1},
		{Up: math.MinInt, Down: -1},
		{Up: 1, Down: math.MaxInt},
		{Up: 1, Down: math.MinInt},
		{Up: math.MinInt, Down: math.MinInt},
		{Up: 0, Down: math.MinInt},
		{Up: math.MinInt, Down: 0},
	}
}

func TestMaxPart(t *testing.T) {
	if impl.MaxPart != 1000000000 {
		t.Fatal(impl.MaxPart)
	}
}

func TestPromise1NoughtIsAFraction(t *testing.T) {
	for _, n := range parts() {
		if got := impl.FracOk(impl.Frac{Up: 0, Down: n}); got != (n == 1) {
			t.Errorf("FracOk(0/%d) = %v", n, got)
		}
		if impl.FracOk(impl.Frac{Up: n, Down: 0}) {
			t.Errorf("FracOk(%d/0)", n)
		}
	}
	for _, f := range pairs() {
		ok := impl.FracOk(f)
		if ok != allowed(f) {
			t.Errorf("FracOk(%v) = %v", f, ok)
		}
		if impl.FracOk(impl.Frac{Up: -f.Up, Down: f.Down}) != ok {
			t.Errorf("FracOk(%v) is %v, but not with the other sign", f, ok)
		}
	}
}

func TestPromise1Bounds(t *testing.T) {
	for _, f := range []impl.Frac{
		{Up: 0, Down: 1}, {Up: 1, Down: 1}, {Up: -1, Down: 1}, {Up: -3, Down: 2}, {Up: 3, Down: 2},
		{Up: 1000000000, Down: 1}, {Up: -1000000000, Down: 1}, {Up: 1, Down: 1000000000}, {Up: -1, Down: 1000000000},
		{Up: 999999999, Down: 1000000000}, {Up: -1000000000, Down: 999999999},
	} {
		if !impl.FracOk(f) {
			t.Errorf("FracOk(%v) = false", f)
		}
	}
	for _, f := range noFractions() {
		if impl.FracOk(f) {
			t.Errorf("FracOk(%v) = true", f)
		}
	}
}

func TestPromise2LowestTermsAreFractions(t *testing.T) {
	for _, p := range pairs() {
		inside := p.Up >= -1000000000 && p.Up <= 1000000000 && p.Down >= -1000000000 && p.Down <= 1000000000 && p.Down != 0
		f, ok := impl.FracOf(p.Up, p.Down)
		if ok != inside {
			t.Errorf("FracOf(%d, %d) tells %v", p.Up, p.Down, ok)
		}
		if !inside {
			if f != (impl.Frac{}) {
				t.Errorf("FracOf(%d, %d) = %v beside false", p.Up, p.Down, f)
			}
			continue
		}
		if !impl.FracOk(f) || !allowed(f) {
			t.Errorf("FracOf(%d, %d) = %v, which is none", p.Up, p.Down, f)
		}
		if int64(f.Up)*int64(p.Down) != int64(p.Up)*int64(f.Down) {
			t.Errorf("FracOf(%d, %d) = %v, which is another number", p.Up, p.Down, f)
		}
	}
}

func TestPromise2Examples(t *testing.T) {
	for _, c := range []struct {
		up, down int
		want     impl.Frac
	}{
		{6, -4, impl.Frac{Up: -3, Down: 2}},
		{-6, 4, impl.Frac{Up: -3, Down: 2}},
		{-6, -4, impl.Frac{Up: 3, Down: 2}},
		{6, 4, impl.Frac{Up: 3, Down: 2}},
		{0, 7, impl.Frac{Up: 0, Down: 1}},
		{0, -7, impl.Frac{Up: 0, Down: 1}},
		{0, -1000000000, impl.Frac{Up: 0, Down: 1}},
		{1000000000, -1000000000, impl.Frac{Up: -1, Down: 1}},
		{-1000000000, -1000000000, impl.Frac{Up: 1, Down: 1}},
		{1000000000, 1, impl.Frac{Up: 1000000000, Down: 1}},
		{1, -1000000000, impl.Frac{Up: -1, Down: 1000000000}},
		{-999999999, -1000000000, impl.Frac{Up: 999999999, Down: 1000000000}},
	} {
		if f, ok := impl.FracOf(c.up, c.down); !ok || f != c.want {
			t.Errorf("FracOf(%d, %d) = %v, %v", c.up, c.down, f, ok)
		}
	}
	for _, p := range [][2]int{
		{1, 0}, {0, 0}, {-1, 0}, {1000000001, 1}, {-1000000001, 1}, {1, 1000000001}, {1, -1000000001},
		{2000000000, 2}, {2, 2000000000}, {math.MaxInt, 1}, {math.MinInt, 1}, {1, math.MaxInt}, {1, math.MinInt},
		{math.MinInt, math.MinInt}, {math.MinInt, -1}, {0, math.MinInt}, {math.MaxInt, 0},
	} {
		if f, ok := impl.FracOf(p[0], p[1]); ok || f != (impl.Frac{}) {
			t.Errorf("FracOf(%d, %d) = %v, %v", p[0], p[1], f, ok)
		}
	}
}

func TestPromise3WhatIsAddedMayBeTakenAway(t *testing.T) {
	list := fractions()
	for _, f := range list {
		for _, g := range list {
			sum, ok := impl.PlusOf(f, g)
			want, told := fracOfRat(new(big.Rat).Add(ratOf(f), ratOf(g)))
			if ok != told || sum != want {
				t.Fatalf("PlusOf(%v, %v) = %v, %v, not %v, %v", f, g, sum, ok, want, told)
			}
			if other, okToo := impl.PlusOf(g, f); other != sum || okToo != ok {
				t.Fatalf("PlusOf(%v, %v) = %v, %v, but exchanged %v, %v", f, g, sum, ok, other, okToo)
			}
			if !ok {
				continue
			}
			if first, back := impl.PlusOf(sum, impl.MinusOf(g)); !back || first != f {
				t.Fatalf("%v plus %v less %v is %v, %v", f, g, g, first, back)
			}
		}
	}
}

func TestPromise3Examples(t *testing.T) {
	for _, c := range []struct {
		f, g, want impl.Frac
		ok         bool
	}{
		{impl.Frac{Up: 1, Down: 2}, impl.Frac{Up: 1, Down: 6}, impl.Frac{Up: 2, Down: 3}, true},
		{impl.Frac{Up: -1, Down: 2}, impl.Frac{Up: 1, Down: 3}, impl.Frac{Up: -1, Down: 6}, true},
		{impl.Frac{Up: 0, Down: 1}, impl.Frac{Up: -3, Down: 2}, impl.Frac{Up: -3, Down: 2}, true},
		{impl.Frac{Up: 0, Down: 1}, impl.Frac{Up: 0, Down: 1}, impl.Frac{Up: 0, Down: 1}, true},
		{impl.Frac{Up: 999999999, Down: 1}, impl.Frac{Up: 1, Down: 1}, impl.Frac{Up: 1000000000, Down: 1}, true},
		{impl.Frac{Up: -999999999, Down: 1}, impl.Frac{Up: -1, Down: 1}, impl.Frac{Up: -1000000000, Down: 1}, true},
		{impl.Frac{Up: 1000000000, Down: 1}, impl.Frac{Up: 1, Down: 1}, impl.Frac{}, false},
		{impl.Frac{Up: -1000000000, Down: 1}, impl.Frac{Up: -1, Down: 1}, impl.Frac{}, false},
		{impl.Frac{Up: 1000000000, Down: 1}, impl.Frac{Up: 1, Down: 2}, impl.Frac{}, false},
		{impl.Frac{Up: 1, Down: 500000000}, impl.Frac{Up: 1, Down: 1000000000}, impl.Frac{Up: 3, Down: 1000000000}, true},
		{impl.Frac{Up: 1, Down: 1000000000}, impl.Frac{Up: 1, Down: 999999999}, impl.Frac{}, false},
		{impl.Frac{Up: 1, Down: 1000000000}, impl.Frac{Up: 1, Down: 3}, impl.Frac{}, false},
		{impl.Frac{Up: 999999999, Down: 1000000000}, impl.Frac{Up: 999999999, Down: 1000000000}, impl.Frac{Up: 999999999, Down: 500000000}, true},
		{impl.Frac{Up: 999999999, Down: 1000000000}, impl.Frac{Up: -999999999, Down: 1000000000}, impl.Frac{Up: 0, Down: 1}, true},
		{impl.Frac{Up: 999999999, Down: 1000000000}, impl.Frac{Up: 1, Down: 1000000000}, impl.Frac{Up: 1, Down: 1}, true},
	} {
		if sum, ok := impl.PlusOf(c.f, c.g); ok != c.ok || sum != c.want {
			t.Errorf("PlusOf(%v, %v) = %v, %v", c.f, c.g, sum, ok)
		}
	}
	for _, bad := range noFractions() {
		for _, f := range []impl.Frac{{Up: 0, Down: 1}, {Up: -1, Down: 2}, bad} {
			if sum, ok := impl.PlusOf(bad, f); ok || sum != (impl.Frac{}) {
				t.Errorf("PlusOf(%v, %v) = %v, %v", bad, f, sum, ok)
			}
			if sum, ok := impl.PlusOf(f, bad); ok || sum != (impl.Frac{}) {
				t.Errorf("PlusOf(%v, %v) = %v, %v", f, bad, sum, ok)
			}
		}
	}
}

func TestPromise4SignsTurnedTwiceAreAsBefore(t *testing.T) {
	for _, f := range fractions() {
		turned := impl.MinusOf(f)
		if turned != (impl.Frac{Up: -f.Up, Down: f.Down}) {
			t.Errorf("MinusOf(%v) = %v", f, turned)
		}
		if again := impl.MinusOf(turned); again != f {
			t.Errorf("MinusOf twice of %v is %v", f, again)
		}
		if sum, ok := impl.PlusOf(f, turned); !ok || sum != (impl.Frac{Up: 0, Down: 1}) {
			t.Errorf("PlusOf(%v, %v) = %v, %v", f, turned, sum, ok)
		}
	}
	for _, f := range append(pairs(), noFractions()...) {
		if turned := impl.MinusOf(f); !allowed(f) && turned != (impl.Frac{}) {
			t.Errorf("MinusOf(%v) = %v, which is no fraction", f, turned)
		}
	}
}

func TestPromise5FractionsAreInOrder(t *testing.T) {
	list := fractions()
	for _, f := range list {
		if impl.LessOk(f, f) {
			t.Errorf("%v is less than itself", f)
		}
		for _, g := range list {
			less := impl.LessOk(f, g)
			if less != (ratOf(f).Cmp(ratOf(g)) < 0) {
				t.Fatalf("LessOk(%v, %v) = %v", f, g, less)
			}
			if f != g && impl.LessOk(g, f) == less {
				t.Fatalf("LessOk(%v, %v) is %v, exchanged as well", f, g, less)
			}
			if impl.LessOk(impl.MinusOf(g), impl.MinusOf(f)) != less {
				t.Fatalf("LessOk(%v, %v) is %v, but not the other way round with the other signs", f, g, less)
			}
		}
	}
}

func TestPromise5Examples(t *testing.T) {
	// The fractions with great parts differ by less than a float64 or a product of 32 bits can tell.
	ascending := []impl.Frac{
		{Up: -1000000000, Down: 1}, {Up: -999999999, Down: 1}, {Up: -3, Down: 2}, {Up: -1, Down: 1},
		{Up: -999999999, Down: 1000000000}, {Up: -999999998, Down: 999999999}, {Up: -1, Down: 2},
		{Up: -1, Down: 999999999}, {Up: -1, Down: 1000000000}, {Up: 0, Down: 1}, {Up: 1, Down: 1000000000}, {Up: 1, Down: 999999999},
		{Up: 1, Down: 3}, {Up: 1, Down: 2}, {Up: 999999998, Down: 999999999}, {Up: 999999999, Down: 1000000000},
		{Up: 1, Down: 1}, {Up: 1000000000, Down: 999999999}, {Up: 3, Down: 2}, {Up: 999999999, Down: 1}, {Up: 1000000000, Down: 1},
	}
	for i, f := range ascending {
		for j, g := range ascending {
			if less := impl.LessOk(f, g); less != (i < j) {
				t.Errorf("LessOk(%v, %v) = %v", f, g, less)
			}
		}
		for _, bad := range noFractions() {
			if impl.LessOk(f, bad) || impl.LessOk(bad, f) {
				t.Errorf("LessOk tells something of %v and %v", f, bad)
			}
		}
	}
	for _, bad := range noFractions() {
		for _, worse := range noFractions() {
			if impl.LessOk(bad, worse) {
				t.Errorf("LessOk(%v, %v) = true", bad, worse)
			}
		}
	}
}

func TestPromise6TextsOfFractionsAreDifferent(t *testing.T) {
	seen := map[string]impl.Frac{}
	for _, f := range fractions() {
		text := impl.FracText(f)
		if other, twice := seen[text]; twice && other != f {
			t.Errorf("FracText of %v and of %v is %q", f, other, text)
		}
		seen[text] = f
		if want := ratOf(f).RatString(); text != want {
			t.Errorf("FracText(%v) = %q, not %q", f, text, want)
		}
		if minus := strings.HasPrefix(text, "-"); minus != impl.LessOk(f, impl.Frac{Up: 0, Down: 1}) {
			t.Errorf("FracText(%v) = %q", f, text)
		}
	}
}

func TestPromise6Examples(t *testing.T) {
	for _, c := range []struct {
		f    impl.Frac
		want string
	}{
		{impl.Frac{Up: 0, Down: 1}, "0"},
		{impl.Frac{Up: 4, Down: 1}, "4"},
		{impl.Frac{Up: -4, Down: 1}, "-4"},
		{impl.Frac{Up: 1, Down: 1}, "1"},
		{impl.Frac{Up: 1, Down: 2}, "1/2"},
		{impl.Frac{Up: -3, Down: 2}, "-3/2"},
		{impl.Frac{Up: 10, Down: 11}, "10/11"},
		{impl.Frac{Up: -1000000000, Down: 1}, "-1000000000"},
		{impl.Frac{Up: 1000000000, Down: 999999999}, "1000000000/999999999"},
		{impl.Frac{Up: -1, Down: 1000000000}, "-1/1000000000"},
	} {
		if text := impl.FracText(c.f); text != c.want {
			t.Errorf("FracText(%v) = %q, not %q", c.f, text, c.want)
		}
	}
	for _, f := range append(pairs(), noFractions()...) {
		if text := impl.FracText(f); !allowed(f) && text != "" {
			t.Errorf("FracText(%v) = %q, which is no fraction", f, text)
		}
	}
}
