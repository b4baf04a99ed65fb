package impl

import "strconv"

// MaxPart is the greatest number above and below the line of a fraction, without its sign.
const MaxPart = 1000000000

// Frac has a number above the line (Up), and one below it (Down).
type Frac struct {
	Up   int
	Down int
}

// FracOk reports whether a fraction has a number above the line in -MaxPart..MaxPart, and one below it in 1..MaxPart, without a common divisor but 1.
func FracOk(f Frac) bool {
	return partOk(f.Up) && partOk(f.Down) && f.Down > 0 && divisorOf(f.Up, f.Down) == 1
}

// FracOf returns the fraction (FracOk) of two numbers, each in -MaxPart..MaxPart, the second one not 0, the first one above the second one: both divided by their greatest common divisor, with both signs turned if the second one is less than 0; and true; the zero value and false for others.
func FracOf(up int, down int) (Frac, bool) {
	if !partOk(up) || !partOk(down) || down == 0 {
		return Frac{}, false
	}
	up, down = lowestOf(up, down)
	return Frac{Up: up, Down: down}, true
}

// PlusOf returns two fractions (FracOk) added, and true; the zero value and false if that is none (FracOk), and for others.
func PlusOf(f Frac, g Frac) (Frac, bool) {
	if !FracOk(f) || !FracOk(g) {
		return Frac{}, false
	}
	return f.plus(g)
}

// MinusOf returns a fraction (FracOk) with the other sign; the zero value for others.
func MinusOf(f Frac) Frac {
	if !FracOk(f) {
		return Frac{}
	}
	return Frac{Up: -f.Up, Down: f.Down}
}

// LessOk reports whether a fraction is less than another one (FracOk); false for others.
func LessOk(f Frac, g Frac) bool {
	return FracOk(f) && FracOk(g) && f.less(g)
}

// FracText returns the text of a fraction (FracOk): the number above the line, with a minus sign ahead if it is less than 0, a slash and the number below it, but without both if that is 1; "" for others.
func FracText(f Frac) string {
	if !FracOk(f) {
		return ""
	}
	text := strconv.Itoa(f.Up)
	if f.Down != 1 {
		text += "/" + strconv.Itoa(f.Down)
	}
	return text
}

// plus adds two valid fractions. The parts of the sum are less than 2^61 before they are divided, so it is exact.
func (f Frac) plus(g Frac) (Frac, bool) {
	return fracOver(f.crosswise(g)+g.crosswise(f), int64(f.Down)*int64(g.Down))
}

// less reports whether a valid fraction is less than another one.
func (f Frac) less(g Frac) bool {
	return f.crosswise(g) < g.crosswise(f)
}

// more reports whether a valid fraction is more than another one.
func (f Frac) more(g Frac) bool {
	return g.less(f)
}

// crosswise returns f's number above the line times g's number below it. It is an int64 because an int may have 32 bits, too few for such a product.
func (f Frac) crosswise(g Frac) int64 {
	return int64(f.Up) * int64(g.Down)
}

// fracOver returns the fraction of two numbers, the second one not 0, and true; the zero value and false if its lowest terms are too great. Only these are bounded, so that products may be given, unlike to FracOf.
func fracOver(up int64, down int64) (Frac, bool) {
	up, down = lowestOf(up, down)
	if !partOk(up) || !partOk(down) {
		return Frac{}, false
	}
	return Frac{Up: int(up), Down: int(down)}, true
}

// partOk reports whether a number may stand above the line.
func partOk[T int | int64](n T) bool {
	return -MaxPart <= n && n <= MaxPart
}

// lowestOf returns two numbers, the second one not 0, divided by their greatest common divisor, with both signs turned if the second one is less than 0.
func lowestOf[T int | int64](up T, down T) (T, T) {
	by := divisorOf(up, down)
	if down < 0 {
		by = -by
	}
	return up / by, down / by
}

// divisorOf returns the greatest common divisor of two numbers, 0 if both are 0.
func divisorOf[T int | int64](a T, b T) T {
	for b != 0 {
		a, b = b, a%b
	}
	// The remainders have the sign of what is divided, so the last one may be less than 0.
	return max(a, -a)
}
