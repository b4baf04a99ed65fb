package tests

import (
	"fmt"
	"math/rand"
	"regexp"
	"slices"
	"strconv"
	"strings"
	"sync"
	"testing"

	"loop.example/hideandseek/impl"
)

// deedsTold are all deeds that have a text, by their texts.
var deedsTold = sync.OnceValue(func() map[string]impl.Deed {
	list := map[string]impl.Deed{"turn": {Kind: 1}, "smaller": {Kind: 3}, "back": {Kind: 4}}
	for by := -99; by <= 99; by++ {
		list[fmt.Sprintf("shift %d", by)] = impl.Deed{Kind: 2, By: by}
		for place := range 100 {
			list[fmt.Sprintf("set %d %d %d", place/10, place%10, by)] = impl.Deed{Row: place / 10, Column: place % 10, By: by}
		}
	}
	return list
})

// textsTold are the texts of all deeds that have one, in order.
var textsTold = sync.OnceValue(func() []string {
	var list []string
	for text := range deedsTold() {
		list = append(list, text)
	}
	slices.Sort(list)
	return list
})

// textExamples are texts of deeds of each kind, with numbers of one digit and of two, and with both signs.
var textExamples = []string{
	"set 0 0 0", "set 1 0 -3", "set 9 9 99", "set 9 9 -99", "set 3 2 9", "set 0 1 10", "set 5 6 -10", "set 2 0 -9",
	"shift 0", "shift 2", "shift 99", "shift -99", "shift -1", "shift 10", "turn", "smaller", "back",
}

// notTold are deeds that have no text: numbers just outside of their bounds, far ones, such that their kind does not name, and kinds that are none.
func notTold() []impl.Deed {
	var list []impl.Deed
	for _, n := range append(farFew(), -11, -10, -9, -2, -1, 10, 11, 12, 99, 100) {
		list = append(list, impl.Deed{Row: n}, impl.Deed{Column: n}, impl.Deed{Row: n, Column: n, By: 5}, impl.Deed{Row: 9, Column: n}, impl.Deed{Row: n, Column: 9, By: -99})
	}
	for _, n := range append(farFew(), -1000, -199, -110, -109, -101, -100, 100, 101, 102, 109, 110, 199, 999, 256+99, 65536-99) {
		list = append(list, impl.Deed{By: n}, impl.Deed{Row: 9, Column: 9, By: n}, impl.Deed{Kind: 2, By: n})
	}
	for _, n := range append(farFew(), -100, -99, -10, -9, -1, 1, 2, 5, 9, 10, 99, 100) {
		for _, by := range []int{-99, -1, 0, 1, 99} {
			list = append(list, impl.Deed{Kind: 2, Row: n, By: by}, impl.Deed{Kind: 2, Column: n, By: by}, impl.Deed{Kind: 2, Row: n, Column: -n, By: by})
		}
		for _, kind := range []int{1, 3, 4} {
			list = append(list, impl.Deed{Kind: kind, Row: n}, impl.Deed{Kind: kind, Column: n}, impl.Deed{Kind: kind, By: n}, impl.Deed{Kind: kind, Row: n, Column: -n, By: n})
		}
	}
	return append(list, noKinds()...)
}

// changedTexts are all texts that are another one with one byte more, less, or another one, at each place.
func changedTexts(text string) []string {
	var list []string
	for at := 0; at <= len(text); at++ {
		for b := range 256 {
			list = append(list, text[:at]+string([]byte{byte(b)})+text[at:])
			if at < len(text) {
				list = append(list, text[:at]+string([]byte{byte(b)})+text[at+1:])
			}
		}
		if at < len(text) {
			list = append(list, text[:at]+text[at+1:])
		}
	}
	return list
}

// noTexts are texts of no deed.
var noTexts = []string{
	"", " ", "\n", "  ", "0", "-", "set", "shift", "set ", "shift ", "set 0", "set 0 0", "set 0 0 ", "set  0 0 0", "set 0  0 0", "set 0 0  0", " set 0 0 0", "set 0 0 0 ", "set 0 0 0 0",
	"set 0 0 0\n", "set 0 0 00", "set 00 0 0", "set 0 00 0", "set 0 0 +5", "set +1 0 5", "set 0 0 -0", "set -0 0 0", "set 0 -0 0", "set 0 0 05", "set 0 0 -05", "set 0 0 100", "set 0 0 -100", "set 10 0 0", "set 0 10 0", "set -1 0 0", "set 0 -1 0",
	"set 0 0 5.", "set 0 0 5.0", "set 0 0 0x5", "set 0 0 5e0", "set 0 0 1_0", "set 0 0 --5", "set 0 0 - 5", "set 0 0 99999999999999999999", "set 18446744073709551616 0 0", "set 0,0,0", "set\t0\t0\t0", "set 0 0 five", "set a b c", "SET 0 0 0", "Set 0 0 0", "set0 0 0", "set 000",
	"set 0 0 \u0665", "set 0 0 \uff15", "set\u00a00 0 0", "set 0 0 5\r", "set 0 0 5\x00", "\ufeffset 0 0 5", "set 0 0 0\nset 0 0 0", "set 0 0 0 turn",
	"shift -0", "shift +5", "shift 05", "shift -05", "shift 00", "shift 100", "shift -100", "shift  5", " shift 5", "shift 5 ", "shift 5 5", "shift 0 0 5", "shift 0 0", "shift 5\n", "Shift 5", "SHIFT 5", "shift5", "shift\t5", "shift 5\r\n", "shift 4294967296", "shift -", "shift +",
	"turn ", " turn", "turn\n", "Turn", "TURN", "turn 0", "turn 0 0 0", "turn turn", "turned", "tur", "turn 1", "turn -0", "smaller ", " smaller", "smaller\n", "Smaller", "smaller 0", "small", "smallest", "back ", " back", "back\n", "Back", "back 0", "back 1", "bac", "back back", "back 0 0 0",
	"do", "done", "4", "1", "3", "-1", "undo", "0 0 0 0", "DkTurn", "ok", "not", "what", "none", "game", "floor", "learn 1",
}

func TestPromise64TextsOfDeedsAreRead(t *testing.T) {
	for text, a := range deedsTold() {
		if got := impl.DeedText(a); got != text {
			t.Fatalf("DeedText(%v) = %q, not %q", a, got, text)
		}
		if got, ok := impl.ReadDeed(text); !ok || got != a {
			t.Fatalf("ReadDeed(%q) = %v, %v, not %v", text, got, ok, a)
		}
	}
	if len(deedsTold()) != 100*199+199+3 {
		t.Fatal(len(deedsTold()))
	}
}

func TestPromise64Examples(t *testing.T) {
	for _, c := range []struct {
		a    impl.Deed
		want string
	}{
		{impl.Deed{}, "set 0 0 0"}, {impl.Deed{Row: 1, By: -3}, "set 1 0 -3"}, {impl.Deed{Row: 9, Column: 8, By: 99}, "set 9 8 99"}, {impl.Deed{Column: 9, By: -99}, "set 0 9 -99"},
		{impl.Deed{Kind: impl.DkTurn}, "turn"}, {impl.Deed{Kind: impl.DkShift}, "shift 0"}, {impl.Deed{Kind: impl.DkShift, By: 2}, "shift 2"}, {impl.Deed{Kind: impl.DkShift, By: -10}, "shift -10"},
		{impl.Deed{Kind: impl.DkSmaller}, "smaller"}, {impl.Deed{Kind: impl.DkBack}, "back"},
		{impl.Deed{Row: 10}, ""}, {impl.Deed{Column: 10}, ""}, {impl.Deed{Row: -1}, ""}, {impl.Deed{Column: -1}, ""}, {impl.Deed{By: 100}, ""}, {impl.Deed{By: -100}, ""},
		{impl.Deed{Kind: 1, By: 1}, ""}, {impl.Deed{Kind: 2, Row: 1}, ""}, {impl.Deed{Kind: 2, Column: 1, By: 5}, ""}, {impl.Deed{Kind: 2, By: 100}, ""}, {impl.Deed{Kind: 2, By: -100}, ""},
		{impl.Deed{Kind: 3, Row: 1}, ""}, {impl.Deed{Kind: 4, Column: -1}, ""}, {impl.Deed{Kind: 5}, ""}, {impl.Deed{Kind: -1}, ""},
	} {
		if text := impl.DeedText(c.a); text != c.want {
			t.Errorf("DeedText(%v) = %q, not %q", c.a, text, c.want)
		}
	}
}

func TestPromise64DeedsWithoutText(t *testing.T) {
	for _, a := range notTold() {
		if text := impl.DeedText(a); text != "" {
			t.Errorf("DeedText(%v) = %q", a, text)
		}
	}
}

// Deeds around the bounds of all numbers have a text exactly if they are told.
func TestPromise64AroundTheBounds(t *testing.T) {
	byDeed := map[impl.Deed]string{}
	for text, a := range deedsTold() {
		byDeed[a] = text
	}
	few := []int{-10, -2, -1, 0, 1, 2, 8, 9, 10, 11}
	for kind := -2; kind <= 6; kind++ {
		for _, row := range few {
			for _, column := range few {
				for by := -103; by <= 103; by++ {
					a := impl.Deed{Kind: kind, Row: row, Column: column, By: by}
					if text := impl.DeedText(a); text != byDeed[a] {
						t.Fatalf("DeedText(%v) = %q, not %q", a, text, byDeed[a])
					}
				}
			}
		}
	}
}

func testRead(t *testing.T, text string) {
	t.Helper()
	a, ok := impl.ReadDeed(text)
	want, told := deedsTold()[text]
	if ok != told || a != want {
		t.Fatalf("ReadDeed(%q) = %v, %v, not %v, %v", text, a, ok, want, told)
	}
	if ok && impl.DeedText(a) != text {
		t.Fatalf("ReadDeed(%q) = %v, but its text is %q", text, a, impl.DeedText(a))
	}
}

func TestPromise65ReadTextsAreCanonical(t *testing.T) {
	for _, text := range textsTold() {
		for _, behind := range []string{"", " ", "\n", " 0", "0", " turn"} {
			testRead(t, text+behind)
		}
		for end := range text {
			testRead(t, text[:end])
		}
		for _, change := range [][2]string{{" ", "  "}, {" ", " 0"}, {" ", " +"}, {" ", " -"}, {" ", "\t"}, {" ", "\n"}, {"0", "-0"}, {"s", "S"}, {"t", "T"}, {"b", "B"}} {
			testRead(t, strings.Replace(text, change[0], change[1], 1))
			testRead(t, strings.ReplaceAll(text, change[0], change[1]))
			if at := strings.LastIndex(text, change[0]); at >= 0 {
				testRead(t, text[:at]+change[1]+text[at+len(change[0]):])
			}
		}
		testRead(t, " "+text)
		testRead(t, strings.ToUpper(text))
		testRead(t, strings.ToUpper(text[:1])+text[1:])
	}
}

func TestPromise65TextsThatAreNone(t *testing.T) {
	for _, text := range noTexts {
		if a, ok := impl.ReadDeed(text); ok || a != (impl.Deed{}) {
			t.Errorf("ReadDeed(%q) = %v, %v", text, a, ok)
		}
	}
	for _, text := range []string{strings.Repeat("set ", 1000), strings.Repeat(" ", 10000), "set 0 0 " + strings.Repeat("0", 10000), "set" + strings.Repeat(" 0", 10000), "shift " + strings.Repeat("9", 1000), "\xff\xfe", "set \xff 0 0"} {
		testRead(t, text)
	}
}

func TestPromise65ByteByByte(t *testing.T) {
	for _, text := range textExamples {
		for _, changed := range changedTexts(text) {
			testRead(t, changed)
		}
	}
	for first := range 256 {
		testRead(t, string([]byte{byte(first)}))
		for second := range 256 {
			testRead(t, string([]byte{byte(first), byte(second)}))
		}
	}
}

// Numbers outside of their bounds are not read, and not bent into them.
func TestPromise65Numbers(t *testing.T) {
	var numbers []string
	for n := -1100; n <= 1100; n++ {
		numbers = append(numbers, strconv.Itoa(n))
	}
	for _, n := range farFew() {
		numbers = append(numbers, strconv.Itoa(n))
	}
	numbers = append(numbers, "4294967295", "4294967301", "-4294967291", "9223372036854775807", "9223372036854775808", "18446744073709551615", "18446744073709551617", "-9223372036854775809", "100000000000000000000", "-", "+", "", "-0", "+0", "00", "-00")
	for _, n := range numbers {
		for _, ahead := range []string{"set 0 0 ", "set 9 9 ", "shift ", "set ", "set 0 ", "turn ", "smaller ", "back ", ""} {
			for _, behind := range []string{"", " 0", " 0 0"} {
				testRead(t, ahead+n+behind)
			}
		}
	}
}

// drawnTold are so many deeds that have a text.
func drawnTold(draw *rand.Rand, many int) []impl.Deed {
	list := make([]impl.Deed, many)
	for i := range list {
		text := textExamples[draw.Intn(len(textExamples))]
		switch draw.Intn(3) {
		case 0:
			text = textsTold()[draw.Intn(len(textsTold()))]
		case 1:
			text = fmt.Sprintf("set %d %d %d", draw.Intn(3), draw.Intn(3), draw.Intn(19)-9)
		}
		list[i] = deedsTold()[text]
	}
	return list
}

// journalByHand is the text of deeds that all have one.
func journalByHand(list []impl.Deed) string {
	text := ""
	for _, a := range list {
		switch a.Kind {
		case 0:
			text += fmt.Sprintf("set %d %d %d\n", a.Row, a.Column, a.By)
		case 2:
			text += fmt.Sprintf("shift %d\n", a.By)
		default:
			text += map[int]string{1: "turn\n", 3: "smaller\n", 4: "back\n"}[a.Kind]
		}
	}
	return text
}

// readByHand takes lines from a text as long as each of them is the text of a deed with a newline.
func readByHand(s string) ([]impl.Deed, int) {
	var list []impl.Deed
	bytes := 0
	for _, line := range strings.SplitAfter(s, "\n") {
		a, ok := deedsTold()[strings.TrimSuffix(line, "\n")]
		if !ok || !strings.HasSuffix(line, "\n") {
			break
		}
		list, bytes = append(list, a), bytes+len(line)
	}
	return list, bytes
}

func testJournal(t *testing.T, s string) {
	t.Helper()
	list, bytes := impl.ReadJournal(s)
	want, many := readByHand(s)
	if bytes != many || !slices.Equal(list, want) {
		t.Fatalf("ReadJournal(%q) = %v, %d, not %v, %d", s, list, bytes, want, many)
	}
	if text := impl.JournalText(list); text != s[:bytes] {
		t.Fatalf("ReadJournal(%q) = %v, %d, but their text is %q", s, list, bytes, text)
	}
}

func TestPromise66JournalsAreRead(t *testing.T) {
	draw := rand.New(rand.NewSource(40))
	for many := 0; many <= 60; many++ {
		for range 20 {
			deeds := drawnTold(draw, many)
			text := impl.JournalText(deeds)
			if text != journalByHand(deeds) {
				t.Fatalf("JournalText(%v) = %q", deeds, text)
			}
			if list, bytes := impl.ReadJournal(text); bytes != len(text) || !slices.Equal(list, deeds) {
				t.Fatalf("ReadJournal(%q) = %v, %d, not %v", text, list, bytes, deeds)
			}
		}
	}
}

func TestPromise66Examples(t *testing.T) {
	for _, c := range []struct {
		list []impl.Deed
		want string
	}{
		{nil, ""}, {[]impl.Deed{}, ""}, {[]impl.Deed{{}}, "set 0 0 0\n"}, {[]impl.Deed{{Kind: 2, By: 2}, {Kind: 4}}, "shift 2\nback\n"},
		{[]impl.Deed{{Kind: 1}, {Kind: 1}, {Kind: 3}, {Row: 3, Column: 1, By: -12}}, "turn\nturn\nsmaller\nset 3 1 -12\n"},
		{[]impl.Deed{{Kind: 5}}, ""}, {[]impl.Deed{{Kind: 1}, {Kind: 1, By: 1}}, ""}, {[]impl.Deed{{By: 100}, {Kind: 1}}, ""}, {[]impl.Deed{{Kind: 1}, {Row: 10}, {Kind: 4}}, ""},
	} {
		if text := impl.JournalText(c.list); text != c.want {
			t.Errorf("JournalText(%v) = %q, not %q", c.list, text, c.want)
		}
	}
}

func TestPromise66OneDeedWithoutText(t *testing.T) {
	draw := rand.New(rand.NewSource(41))
	for at, none := range notTold() {
		many := 1 + at%12
		deeds := drawnTold(draw, many)
		deeds[at/12%many] = none
		if text := impl.JournalText(deeds); text != "" {
			t.Fatalf("JournalText(%v) = %q", deeds, text)
		}
	}
}

// Journals may have more deeds than are done at once.
func TestPromise66ManyDeeds(t *testing.T) {
	draw := rand.New(rand.NewSource(42))
	deeds := drawnTold(draw, 3000)
	text := impl.JournalText(deeds)
	if text != journalByHand(deeds) {
		t.Fatal("JournalText of 3000 deeds is another text")
	}
	if list, bytes := impl.ReadJournal(text); bytes != len(text) || !slices.Equal(list, deeds) {
		t.Fatalf("ReadJournal of 3000 deeds reads %d, and %d of %d bytes", len(list), bytes, len(text))
	}
}

func TestPromise59Examples(t *testing.T) {
	turn, back := impl.Deed{Kind: 1}, impl.Deed{Kind: 4}
	for _, c := range []struct {
		s     string
		list  []impl.Deed
		bytes int
	}{
		{"shift 2\nback\nset", []impl.Deed{{Kind: 2, By: 2}, back}, 13},
		{"", nil, 0}, {"\n", nil, 0}, {"turn", nil, 0}, {"turn\n", []impl.Deed{turn}, 5}, {"\nturn\n", nil, 0}, {" turn\n", nil, 0}, {"turn \n", nil, 0}, {"turn\r\n", nil, 0},
		{"turn\nback", []impl.Deed{turn}, 5}, {"turn\n\nback\n", []impl.Deed{turn}, 5}, {"turn\nback\n\n", []impl.Deed{turn, back}, 10}, {"turn\n \nback\n", []impl.Deed{turn}, 5},
		{"turn\ngame\nback\n", []impl.Deed{turn}, 5}, {"game\nturn\n", nil, 0}, {"turn\nTurn\nback\n", []impl.Deed{turn}, 5}, {"turn\nset 0 0 100\nback\n", []impl.Deed{turn}, 5},
		{"turn\nshift 1\nshift 12", []impl.Deed{turn, {Kind: 2, By: 1}}, 13}, {"turn\nshift 1\nshift 12\n", []impl.Deed{turn, {Kind: 2, By: 1}, {Kind: 2, By: 12}}, 22},
		{"turn\x00\nback\n", nil, 0}, {"turnback\n", nil, 0}, {"turn\rback\r", nil, 0}, {"back\nback\nback", []impl.Deed{back, back}, 10},
	} {
		if list, bytes := impl.ReadJournal(c.s); bytes != c.bytes || !slices.Equal(list, c.list) {
			t.Errorf("ReadJournal(%q) = %v, %d, not %v, %d", c.s, list, bytes, c.list, c.bytes)
		}
		testJournal(t, c.s)
	}
}

func TestPromise59CutAtEveryPlace(t *testing.T) {
	draw := rand.New(rand.NewSource(43))
	for many := 0; many <= 40; many++ {
		deeds := drawnTold(draw, many)
		text := journalByHand(deeds)
		for _, whole := range []string{text, text + "set", text + "\n", text + "shift 12"} {
			for cut := 0; cut <= len(whole); cut++ {
				lines := strings.Count(whole[:min(cut, len(text))], "\n")
				list, bytes := impl.ReadJournal(whole[:cut])
				if !slices.Equal(list, deeds[:lines]) || bytes != len(journalByHand(deeds[:lines])) {
					t.Fatalf("ReadJournal(%q) = %v, %d, not the first %d of %v", whole[:cut], list, bytes, lines, deeds)
				}
				testJournal(t, whole[:cut])
			}
		}
	}
}

// A line that is none ends what is read, wherever it stands.
func TestPromise59LinesThatAreNone(t *testing.T) {
	draw := rand.New(rand.NewSource(44))
	for at, none := range noTexts {
		for many := range 4 {
			lines := strings.SplitAfter(journalByHand(drawnTold(draw, 3)), "\n")
			lines = slices.Insert(lines, many, none+"\n")
			testJournal(t, strings.Join(lines, ""))
			testJournal(t, strings.Join(lines, "")+textExamples[at%len(textExamples)])
		}
	}
	for _, s := range []string{"turn\nset 1 1 5\nback\n", "shift -3\nsmaller\n", "set 0 0 0\nset 9 9 99\nx\nturn\n"} {
		for _, changed := range changedTexts(s) {
			testJournal(t, changed)
		}
	}
}

// linesOf are the lines of a journal, without their newlines.
func linesOf(s string) []string {
	return strings.Split(strings.TrimSuffix(s, "\n"), "\n")
}

func TestPromise59LineByLine(t *testing.T) {
	draw := rand.New(rand.NewSource(45))
	for at, d := range desks() {
		deeds := drawnTold(draw, 1+at%40)
		text := impl.JournalText(deeds)
		read, _ := impl.ReadJournal(text)
		want, done := impl.DeskRun(d, read)
		after, answers := impl.DeskSay(d, linesOf(text))
		ok := 0
		for i, answer := range answers {
			ok += oneOrNone(answer == "ok")
			if answer != "ok" && answer != "not" {
				t.Fatalf("DeskSay(%v, %q) answers %q to the line %d", d, linesOf(text), answer, i)
			}
		}
		if !sameDesk(after, want) || ok != done || len(answers) != len(deeds) {
			t.Fatalf("DeskSay(%v, %q) = %v, %q, but DeskRun leads to %v, with %d done", d, linesOf(text), after, answers, want, done)
		}
	}
}

// commasByHand are the numbers of a list with commas between them.
func commasByHand(list []int) string {
	return strings.ReplaceAll(strings.Trim(fmt.Sprint(list), "[]"), " ", ",")
}

var (
	askLearn   = regexp.MustCompile(`\Alearn (0|[1-9][0-9]{0,8})\z`)
	askBoxes   = regexp.MustCompile(`\Aboxes( (0|[1-9][0-9]{0,8}))+\z`)
	askWindows = regexp.MustCompile(`\Awindows (0|[1-9][0-9]{0,8}) (0|[1-9][0-9]{0,8})\z`)
)

// numbersByHand are the numbers of a line of which all words behind the first one are some.
func numbersByHand(line string) []int {
	var list []int
	for _, word := range strings.Fields(line)[1:] {
		n := 0
		for _, digit := range word {
			n = 10*n + int(digit-'0')
		}
		list = append(list, n)
	}
	return list
}

// answerByHand is the answer to a line that is no deed.
func answerByHand(g [][]int, line string) string {
	switch line {
	case "game":
		return strings.NewReplacer("] [", ";", " ", ",", "[", "", "]", "").Replace(fmt.Sprint(g))
	case "floor":
		floor, _ := floorByHand(g)
		return fmt.Sprint(floor)
	case "roof":
		roof, _ := roofByHand(g)
		return fmt.Sprint(roof)
	case "worth", "rows", "columns":
		s, _ := solveByHand(g)
		return map[string]string{"worth": ratOf(s.Value).RatString(), "rows": commasByHand(s.Rows), "columns": commasByHand(s.Columns)}[line]
	case "saddles":
		if list := saddlesByHand(g); len(list) > 0 {
			return commasByHand(list)
		}
		return "none"
	}
	switch {
	case askLearn.MatchString(line):
		return learnByHand(g, numbersByHand(line)[0])
	case askBoxes.MatchString(line):
		return boxesByHand(numbersByHand(line))
	case askWindows.MatchString(line):
		numbers := numbersByHand(line)
		return windowsByHand(numbers[0], numbers[1])
	}
	return "what"
}

func learnByHand(g [][]int, steps int) string {
	if steps < 1 || steps > 60 {
		return "none"
	}
	return learnedByHand(g, steps).gap(steps).RatString()
}

func boxesByHand(w []int) string {
	if len(w) > 6 || slices.Min(w) < 1 || slices.Max(w) > 9 {
		return "none"
	}
	return ratOf(boxWorthByHand(w)).RatString()
}

// windowsByHand puts one window beside the other until there are no more cells.
func windowsByHand(cells int, wide int) string {
	if cells < 1 || cells > 16 || wide < 1 || wide > cells {
		return "none"
	}
	many := 0
	for ; cells > 0; cells -= wide {
		many++
	}
	return fmt.Sprint(many)
}

// heardByHand is a desk after a line, and the answer.
func heardByHand(d impl.Desk, line string) (impl.Desk, string) {
	a, ok := deedsTold()[line]
	if !ok {
		return d, answerByHand(d.Now, line)
	}
	after, done := doneByHand(d, a)
	if !done {
		return d, "not"
	}
	return after, "ok"
}

func testLine(t *testing.T, d impl.Desk, line string) {
	t.Helper()
	after, answer := impl.DeskLine(d, line)
	want, told := heardByHand(d, line)
	if answer != told || !sameDesk(after, want) {
		t.Fatalf("DeskLine(%v, %q) = %v, %q, not %v, %q", d, line, after, answer, want, told)
	}
	if !impl.DeskOk(after) || answer == "" || answer != "ok" && !sameDesk(after, d) {
		t.Fatalf("DeskLine(%v, %q) = %v, %q", d, line, after, answer)
	}
}

// wordsAlone are the questions of one word.
var wordsAlone = []string{"game", "floor", "roof", "worth", "rows", "columns", "saddles"}

// askedExamples are questions with numbers, some of which are not told.
var askedExamples = []string{
	"learn 1", "learn 2", "learn 59", "learn 60", "learn 61", "learn 0", "learn 999999999", "learn 100000000", "learn 316", "learn 65537",
	"boxes 1", "boxes 9", "boxes 0", "boxes 10", "boxes 2 3 6", "boxes 6 3 2", "boxes 5 7 9", "boxes 1 1 1 1 1 1", "boxes 9 9 9 9 9 9", "boxes 1 1 1 1 1 1 1", "boxes 2 0 6", "boxes 999999999", "boxes 1 2 999999999", "boxes 0 0", "boxes 265",
	"windows 7 3", "windows 1 1", "windows 16 1", "windows 16 16", "windows 16 3", "windows 3 4", "windows 17 1", "windows 0 0", "windows 5 0", "windows 0 5", "windows 999999999 999999999", "windows 999999999 1", "windows 272 1",
}

// noLines are lines that are nothing that is asked, and no deeds.
var noLines = []string{
	"learn", "learn ", "learn  1", "learn 1 ", " learn 1", "learn 01", "learn 00", "learn -1", "learn +1", "learn -0", "learn 1234567890", "learn 1000000000", "learn 0000000001", "learn 4294967297", "learn 18446744073709551617", "learn 1 1", "learn one", "learn\t1", "learn 1\n", "learn1", "Learn 1", "LEARN 1", "learn 1.", "learn 0x1", "learn 1_0", "learn \u0661", "learned 1", "learn ,",
	"boxes", "boxes ", "boxes  2", "boxes 2 ", "boxes 2  3", " boxes 2", "boxes 02", "boxes 2 03", "boxes -2", "boxes +2", "boxes 2 -0", "boxes 1234567890", "boxes 2 1000000000", "boxes 2,3", "boxes 2, 3", "boxes two", "boxes\t2", "boxes 2\n", "boxes2", "Boxes 2", "boxes 2 3 x", "boxes x 2 3", "box 2", "boxes 2\x00", "boxes 1 1 1 1 1 1 01",
	"windows", "windows ", "windows 7", "windows 7 ", "windows 7 3 ", "windows 7 3 1", "windows  7 3", "windows 7  3", " windows 7 3", "windows 07 3", "windows 7 03", "windows 7 -3", "windows -7 3", "windows +7 3", "windows 7 +3", "windows 1234567890 1", "windows 7 1000000000", "windows 7,3", "windows seven three", "windows 7\t3", "windows 7 3\n", "windows7 3", "Windows 7 3", "window 7 3", "windows 7 3 0",
	"game ", " game", "game\n", "Game", "GAME", "games", "gam", "game 1", "game game", "floor ", "floor 0", "floors", "Floor", "roof ", "roof 1", "Roof", "roofs", "worth ", "worth 1", "Worth", "rows ", "rows 1", "row", "Rows", "columns ", "columns 0", "column", "Columns", "saddles ", "saddles 1", "saddle", "Saddles",
	"ok", "not", "none", "what", "help", "?", "learn boxes", "boxes windows", "floor roof", "game\x00", "\xffgame", "ga\u200bme",
}

// A line that is no question and no deed is answered by what, also if it is nearly one.
func TestPromise67LinesThatAreNone(t *testing.T) {
	for at, d := range desks() {
		for i, line := range append(noLines, noTexts...) {
			if at > 40 && i%40 != at%40 || slices.Contains(wordsAlone, line) || slices.Contains(askedExamples, line) {
				continue
			}
			if after, answer := impl.DeskLine(d, line); answer != "what" || !sameDesk(after, d) {
				t.Fatalf("DeskLine(%v, %q) = %v, %q", d, line, after, answer)
			}
			testLine(t, d, line)
		}
	}
}

func TestPromise67EmptyLine(t *testing.T) {
	for _, d := range desks() {
		if after, answer := impl.DeskLine(d, ""); answer != "what" || !sameDesk(after, d) {
			t.Fatalf("DeskLine(%v, %q) = %v, %q", d, "", after, answer)
		}
	}
}

func TestPromise67QuestionsByHand(t *testing.T) {
	none := 0
	for _, g := range laid() {
		for _, line := range wordsAlone {
			testLine(t, deskOf(g), line)
		}
		none += oneOrNone(len(saddlesByHand(g)) == 0)
	}
	if none < 100 || none > len(laid())-100 {
		t.Fatalf("%d of %d games have no saddle: too few to test them, or those with one", none, len(laid()))
	}
	for at, g := range smallGames() {
		testLine(t, deskOf(g), wordsAlone[at%len(wordsAlone)])
		testLine(t, deskOf(g), "game")
		testLine(t, deskOf(g), "saddles")
	}
}

func TestPromise67QuestionsAtDesks(t *testing.T) {
	for _, d := range desks() {
		for _, line := range slices.Concat(wordsAlone, askedExamples) {
			testLine(t, d, line)
		}
	}
}

func TestPromise67Examples(t *testing.T) {
	for _, c := range []struct {
		g            [][]int
		line, answer string
	}{
		{[][]int{{3, -1}, {-2, 4}}, "game", "3,-1;-2,4"}, {[][]int{{5}}, "game", "5"}, {[][]int{{-9}}, "game", "-9"}, {[][]int{{1, 2, 3}}, "game", "1,2,3"}, {[][]int{{1}, {2}, {3}}, "game", "1;2;3"}, {alike(4, 4, 0), "game", "0,0,0,0;0,0,0,0;0,0,0,0;0,0,0,0"},
		{[][]int{{3, -1}, {-2, 4}}, "floor", "-1"}, {[][]int{{3, -1}, {-2, 4}}, "roof", "3"}, {[][]int{{0}}, "floor", "0"}, {[][]int{{0}}, "roof", "0"}, {[][]int{{7, 9}}, "roof", "7"},
		{[][]int{{3, -1}, {-2, 4}}, "worth", "1"}, {[][]int{{9, -9}, {-8, 8}}, "worth", "0"}, {[][]int{{2, 0}, {0, 1}}, "worth", "2/3"}, {[][]int{{-2, 0}, {0, -1}}, "worth", "-2/3"}, {[][]int{{-7}}, "worth", "-7"},
		{[][]int{{3, -1}, {-2, 4}}, "rows", "3,2"}, {[][]int{{3, -1}, {-2, 4}}, "columns", "1,1"}, {[][]int{{4}}, "rows", "1"}, {[][]int{{4}}, "columns", "1"}, {[][]int{{1, 2, 0}}, "columns", "0,0,1"}, {[][]int{{1}, {2}, {0}}, "rows", "0,1,0"}, {[][]int{{2, 0, 0}, {0, 3, 0}, {0, 0, 6}}, "rows", "3,2,1"},
		{[][]int{{3, -1}, {-2, 4}}, "saddles", "none"}, {[][]int{{0}}, "saddles", "0"}, {[][]int{{3, 1, 4}, {2, 2, 2}}, "saddles", "4"}, {alike(2, 2, 5), "saddles", "0,1,2,3"}, {alike(4, 4, 5), "saddles", "0,1,2,3,4,5,6,7,8,9,10,11,12,13,14,15"},
		{[][]int{{3, -1}, {-2, 4}}, "learn 1", "4"}, {[][]int{{3, -1}, {-2, 4}}, "learn 5", "9/5"}, {[][]int{{5}}, "learn 60", "0"}, {[][]int{{5}}, "learn 61", "none"}, {[][]int{{5}}, "learn 0", "none"}, {[][]int{{5}}, "learn 999999999", "none"}, {[][]int{{5}}, "learn 1000000000", "what"}, {[][]int{{5, 1, 1}}, "learn 60", "1/15"},
		{[][]int{{5}}, "boxes 2 3 6", "1"}, {[][]int{{5}}, "boxes 2 3 6 9", "9/10"}, {[][]int{{5}}, "boxes 7", "7"}, {[][]int{{5}}, "boxes 0", "none"}, {[][]int{{5}}, "boxes 2 3 6 9 1 1 1", "none"}, {[][]int{{5}}, "boxes", "what"},
		{[][]int{{5}}, "windows 7 3", "3"}, {[][]int{{5}}, "windows 16 4", "4"}, {[][]int{{5}}, "windows 3 7", "none"}, {[][]int{{5}}, "windows 0 0", "none"}, {[][]int{{5}}, "windows 7", "what"}, {[][]int{{5}}, "windows 7 3 1", "what"},
		{[][]int{{5}}, "set 0 0 5", "not"}, {[][]int{{5}}, "set 0 0 10", "not"}, {[][]int{{5}}, "set 9 9 99", "not"}, {[][]int{{5}}, "set 0 0 100", "what"}, {[][]int{{5}}, "set 10 0 1", "what"}, {[][]int{{5}}, "shift 0", "not"}, {[][]int{{5}}, "shift 99", "not"}, {[][]int{{5}}, "shift 100", "what"}, {[][]int{{5}}, "back", "not"}, {[][]int{{5}}, "smaller", "not"}, {[][]int{{0}}, "turn", "not"}, {[][]int{{5}}, "turn 0", "what"},
	} {
		d := deskOf(c.g)
		if after, answer := impl.DeskLine(d, c.line); answer != c.answer || !sameDesk(after, d) {
			t.Errorf("DeskLine(%v, %q) = %v, %q, not %q", d, c.line, after, answer, c.answer)
		}
	}
}

func TestPromise67DeedsAreDone(t *testing.T) {
	done := 0
	for _, d := range someDesks() {
		for at, text := range textsTold() {
			if at%7 != 0 && !strings.HasPrefix(text, "set 0 0") && strings.HasPrefix(text, "set") {
				continue
			}
			testLine(t, d, text)
			after, answer := impl.DeskLine(d, text)
			want, ok := impl.DeskDo(d, deedsTold()[text])
			if !sameDesk(after, want) || answer != map[bool]string{true: "ok", false: "not"}[ok] {
				t.Fatalf("DeskLine(%v, %q) = %v, %q, but DeskDo leads to %v, %v", d, text, after, answer, want, ok)
			}
			done += oneOrNone(ok)
		}
	}
	if done < 1000 {
		t.Fatalf("only %d deeds were done: too few to test them", done)
	}
}

// Each number of steps is asked for, and such that are none.
func TestPromise67Learning(t *testing.T) {
	for _, g := range laidOnce() {
		for steps := 0; steps <= 130; steps++ {
			testLine(t, deskOf(g), fmt.Sprintf("learn %d", steps))
		}
	}
	testNumbers(t, "learn ", "")
}

func TestPromise67Boxes(t *testing.T) {
	d := deskOf([][]int{{3, -1}, {-2, 4}}, [][]int{{2}})
	for _, w := range append(boxes(), noBoxes()...) {
		line := "boxes"
		for _, worth := range w {
			line += fmt.Sprintf(" %d", worth)
		}
		testLine(t, d, line)
	}
	for many := 1; many <= 300; many++ {
		testLine(t, d, "boxes"+strings.Repeat(" 3", many))
		testLine(t, d, "boxes"+strings.Repeat(" 3", many)+" ")
		testLine(t, d, "boxes"+strings.Repeat(" 3", many)+" 03")
		testLine(t, d, "boxes"+strings.Repeat(" 300000000", many))
	}
	for _, line := range [][2]string{{"boxes ", ""}, {"boxes 2 ", ""}, {"boxes ", " 3"}, {"boxes 1 1 1 1 1 1 ", ""}} {
		testNumbers(t, line[0], line[1])
	}
}

func TestPromise67Windows(t *testing.T) {
	d := deskOf([][]int{{3, -1}, {-2, 4}})
	for cells := -3; cells <= 40; cells++ {
		for wide := -3; wide <= 40; wide++ {
			testLine(t, d, fmt.Sprintf("windows %d %d", cells, wide))
		}
	}
	for _, line := range [][2]string{{"windows ", " 1"}, {"windows 16 ", ""}, {"windows ", ""}, {"windows 7 3 ", ""}} {
		testNumbers(t, line[0], line[1])
	}
}

// testNumbers asks with numbers of one to nine digits, of ten and more, with zeros and signs ahead of them, and with none.
func testNumbers(t *testing.T, ahead string, behind string) {
	t.Helper()
	d := deskOf([][]int{{3, -1}, {-2, 4}}, [][]int{{2}})
	words := []string{"", " ", "-", "+", "00", "-0", "+0", "01", "-1", "+1", "1.", "1e1", "0b1", "0x1", "1_0", "\u0661", "x"}
	for digits := 1; digits <= 25; digits++ {
		for _, first := range []string{"0", "1", "5", "9"} {
			for _, others := range []string{"0", "1", "9"} {
				words = append(words, first+strings.Repeat(others, digits-1), "0"+first+strings.Repeat(others, digits-1))
			}
		}
	}
	for _, n := range farFew() {
		words = append(words, strconv.Itoa(n))
	}
	// Numbers that are 0 or 1 in their low bits.
	for far := 4; far < 64; far++ {
		words = append(words, fmt.Sprint(uint64(1)<<far), fmt.Sprint(uint64(1)<<far+1))
	}
	words = append(words, "18446744073709551616", "18446744073709551617")
	for _, word := range words {
		testLine(t, d, ahead+word+behind)
	}
}

func TestPromise67ByteByByte(t *testing.T) {
	d := deskOf([][]int{{3, -1}, {-2, 4}}, [][]int{{2}})
	for _, line := range slices.Concat(wordsAlone, []string{"learn 1", "learn 12", "boxes 2 3 6", "boxes 5", "windows 7 3", "windows 16 12", "set 1 0 -3", "shift 1", "turn", "back"}) {
		for _, changed := range changedTexts(line) {
			testLine(t, d, changed)
		}
		for end := range line {
			testLine(t, d, line[:end])
		}
	}
}

func TestPromise67NoDesks(t *testing.T) {
	lines := slices.Concat(wordsAlone, askedExamples, noLines, noTexts, textExamples)
	for at, d := range noDesks() {
		for i, line := range lines {
			if i%20 != at%20 {
				continue
			}
			if after, answer := impl.DeskLine(d, line); answer != "" || !noDesk(after) {
				t.Fatalf("DeskLine(%v, %q) = %v, %q", d, line, after, answer)
			}
		}
	}
}

// drawnLines are so many lines: deeds, most of which can be done, questions, and some that are none.
func drawnLines(draw *rand.Rand, many int) []string {
	list := make([]string, many)
	for i := range list {
		switch draw.Intn(6) {
		case 0:
			list[i] = wordsAlone[draw.Intn(len(wordsAlone))]
		case 1:
			list[i] = askedExamples[draw.Intn(len(askedExamples))]
		case 2:
			list[i] = noLines[draw.Intn(len(noLines))]
		default:
			list[i] = strings.TrimSuffix(journalByHand(drawnTold(draw, 1)), "\n")
		}
	}
	return list
}

// saidByHand says lines one after the other.
func saidByHand(d impl.Desk, lines []string) (impl.Desk, []string) {
	var answers []string
	for _, line := range lines {
		after, answer := heardByHand(d, line)
		d, answers = after, append(answers, answer)
	}
	return d, answers
}

func testSaid(t *testing.T, d impl.Desk, lines []string, want impl.Desk, told []string) {
	t.Helper()
	if after, answers := impl.DeskSay(d, lines); !sameDesk(after, want) || !slices.Equal(answers, told) {
		t.Fatalf("DeskSay(%v, %q) = %v, %q, not %v, %q", d, lines, after, answers, want, told)
	}
}

// These are the examples at the document's end.
func TestPromise60Examples(t *testing.T) {
	g := [][]int{{3, -1}, {-2, 4}}
	d, _ := impl.DeskNew(g)
	testSaid(t, d,
		[]string{"floor", "roof", "worth", "rows", "columns", "saddles", "turn", "game", "worth", "back", "shift 5", "worth", "learn 1", "boxes 2 3 6", "windows 7 3"},
		deskOf([][]int{{8, 4}, {3, 9}}, g),
		[]string{"-1", "3", "1", "3,2", "1,1", "none", "ok", "-3,2;1,-4", "-1", "ok", "ok", "6", "4", "1", "3"})
	testSaid(t, d,
		[]string{"", "back", "set 1 1 -9", "set 1 1 -9", "smaller", "game", "smaller", "shift 10", "shift 9", "worth", "back", "back", "back", "game"},
		deskOf(g),
		[]string{"what", "not", "ok", "not", "ok", "-1", "not", "not", "ok", "8", "ok", "ok", "ok", "3,-1;-2,4"})
}

func TestPromise60LinesByHand(t *testing.T) {
	draw := rand.New(rand.NewSource(46))
	for at, d := range desks() {
		lines := drawnLines(draw, at%41)
		want, told := saidByHand(d, lines)
		testSaid(t, d, lines, want, told)
		if !impl.DeskOk(want) || len(told) != len(lines) || slices.Contains(told, "") {
			t.Fatalf("DeskSay(%v, %q) = %v, %q", d, lines, want, told)
		}
	}
}

func TestPromise60OneByOne(t *testing.T) {
	draw := rand.New(rand.NewSource(47))
	for _, d := range desks() {
		lines := drawnLines(draw, 40)
		want := d
		var told []string
		for _, line := range lines {
			after, answer := impl.DeskLine(want, line)
			want, told = after, append(told, answer)
		}
		testSaid(t, d, lines, want, told)
	}
}

func TestPromise60TwoParts(t *testing.T) {
	draw := rand.New(rand.NewSource(48))
	for at, d := range someDesks() {
		lines := drawnLines(draw, at%41)
		whole, told := impl.DeskSay(d, lines)
		for cut := 0; cut <= len(lines); cut++ {
			first, some := impl.DeskSay(d, lines[:cut])
			if !slices.Equal(some, told[:cut]) {
				t.Fatalf("DeskSay(%v, %q) = %v, %q, not %q", d, lines[:cut], first, some, told[:cut])
			}
			testSaid(t, first, lines[cut:], whole, told[cut:])
		}
	}
}

func TestPromise60BoxesAreWorthWhatTheyAre(t *testing.T) {
	draw := rand.New(rand.NewSource(49))
	for at, d := range desks() {
		lines := append(drawnLines(draw, at%39), "boxes 2 3 6", "windows 7 3")
		_, answers := impl.DeskSay(d, lines)
		if many := len(answers); many != len(lines) || slices.Contains(answers, "") || answers[many-2] != "1" || answers[many-1] != "3" {
			t.Fatalf("DeskSay(%v, %q) answers %q", d, lines, answers)
		}
	}
}

func TestPromise60HowManyLines(t *testing.T) {
	draw := rand.New(rand.NewSource(50))
	for _, d := range someDesks() {
		for many := 0; many <= 45; many++ {
			lines := drawnLines(draw, many)
			if many > 40 {
				testSaid(t, d, lines, impl.Desk{}, nil)
				continue
			}
			want, told := saidByHand(d, lines)
			testSaid(t, d, lines, want, told)
		}
	}
	for _, many := range []int{41, 80, 256, 296, 1000, 65576} {
		testSaid(t, deskOf([][]int{{5}}), make([]string, many), impl.Desk{}, nil)
	}
}

func TestPromise60NoLines(t *testing.T) {
	for _, d := range desks() {
		testSaid(t, d, nil, d, nil)
		testSaid(t, d, []string{}, d, nil)
	}
}

func TestPromise60NoDesks(t *testing.T) {
	draw := rand.New(rand.NewSource(51))
	for _, d := range noDesks() {
		for _, many := range []int{0, 1, 40, 41} {
			testSaid(t, d, drawnLines(draw, many), impl.Desk{}, nil)
		}
		testSaid(t, d, []string{"boxes 2 3 6", "", "back"}, impl.Desk{}, nil)
	}
}

// TestListsAreAsBefore overwrites what was read and answered, the room behind it too, and asks again.
func TestListsAreAsBefore(t *testing.T) {
	draw := rand.New(rand.NewSource(52))
	for _, d := range someDesks() {
		deeds, lines := drawnTold(draw, 20), drawnLines(draw, 20)
		text := journalByHand(deeds)
		_, told := saidByHand(d, lines)
		for range 2 {
			list, _ := impl.ReadJournal(text)
			_, answers := impl.DeskSay(d, lines)
			if !slices.Equal(list, deeds) || !slices.Equal(answers, told) {
				t.Fatalf("ReadJournal(%q) = %v, DeskSay(%v, %q) = %q", text, list, d, lines, answers)
			}
			clear(list[:cap(list)])
			clear(answers[:cap(answers)])
		}
	}
}
