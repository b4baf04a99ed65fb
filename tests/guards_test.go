package tests

import (
	"cmp"
	"math"
	"reflect"
	"slices"
	"testing"

	"loop.example/hideandseek/impl"
)

// townOf is the town of these streets.
func townOf(places int, streets ...int) impl.Town {
	return impl.Town{Places: places, Streets: streets}
}

// streetsByHand are all streets of so many places, in ascending order.
func streetsByHand(places int) []int {
	var list []int
	for lesser := range places {
		for greater := lesser + 1; greater < places; greater++ {
			list = append(list, 10*lesser+greater)
		}
	}
	return list
}

// streetSets are all sets of streets of so many places, those that are too many for a town too.
func streetSets(places int) [][]int {
	all := streetsByHand(places)
	var list [][]int
	for set := range 1 << len(all) {
		var streets []int
		for _, at := range bitsOf(set) {
			streets = append(streets, all[at])
		}
		list = append(list, streets)
	}
	return list
}

// towns are all towns.
func towns() []impl.Town {
	var list []impl.Town
	for places := 2; places <= 5; places++ {
		for _, streets := range streetSets(places) {
			if len(streets) <= 8 {
				list = append(list, townOf(places, streets...))
			}
		}
	}
	return list
}

// townsWithAWay are all towns with one way or more, and townsWithout all others.
func townsWithAWay() []impl.Town {
	return slices.DeleteFunc(towns(), func(town impl.Town) bool { return !joinedByHand(town, 0) })
}

func townsWithout() []impl.Town {
	return slices.DeleteFunc(towns(), func(town impl.Town) bool { return joinedByHand(town, 0) })
}

// withoutStreet is the town without the street of this place.
func withoutStreet(town impl.Town, at int) impl.Town {
	return townOf(town.Places, slices.Delete(slices.Clone(town.Streets), at, at+1)...)
}

// noStreets are numbers that tell no street of so many places: of one place alone, of places exchanged, to a place that is none, very large and very small.
func noStreets(places int) []int {
	list := slices.Clone(farNumbers)
	for n := -130; n <= 130; n++ {
		list = append(list, n)
	}
	for _, street := range streetsByHand(places) {
		list = append(list, -street, street+1<<8, street-1<<8, street+1<<16, street-1<<16, street+1<<31, street-1<<31, street+math.MinInt, math.MaxInt-street)
	}
	own := streetsByHand(places)
	return slices.DeleteFunc(list, func(n int) bool { return slices.Contains(own, n) })
}

// noPlaces are numbers of places that no town has.
func noPlaces() []int {
	list := slices.Clone(farNumbers)
	for near := -20; near <= 20; near++ {
		if near < 2 || near > 5 {
			list = append(list, near)
		}
	}
	return append(list, 256+5, 65536+5, -256+5, math.MinInt+5, math.MinInt+2)
}

// noTowns have too few or too many places, too many streets, streets that are none, or streets twice or in another order.
func noTowns() []impl.Town {
	list := []impl.Town{{}, townOf(0, 1), townOf(1), townOf(1, 0), townOf(6, 5), townOf(6, 1, 15), townOf(10, 9), townOf(11, 1, 10)}
	for _, places := range noPlaces() {
		for _, streets := range [][]int{nil, {}, {1}, {2}, {1, 12}, {12}, {1, 2, 3, 4, 12, 13, 14, 23}} {
			list = append(list, townOf(places, streets...))
		}
	}
	for places := 2; places <= 5; places++ {
		all := streetsByHand(places)
		few := all[:min(len(all), 7)]
		for _, n := range noStreets(places) {
			list = append(list, townOf(places, n), townOf(places, 1, n), townOf(places, n, all[len(all)-1]))
			for at := range len(few) + 1 {
				list = append(list, townOf(places, slices.Insert(slices.Clone(few), at, n)...))
			}
		}
		for at, street := range few {
			list = append(list, townOf(places, slices.Insert(slices.Clone(few), at, street)...), townOf(places, append(slices.Clone(few), street)...))
			for other := range at {
				exchanged := slices.Clone(few)
				exchanged[at], exchanged[other] = exchanged[other], exchanged[at]
				list = append(list, townOf(places, exchanged...), townOf(places, street, few[other]))
			}
		}
		for _, many := range []int{9, 10, 256 + 1, 256 + 8, 1000, 65536 + 1} {
			list = append(list, townOf(places, slices.Repeat([]int{1}, many)...), townOf(places, weightsOf(many, func(at int) int { return at + 1 })...))
		}
	}
	for _, streets := range streetSets(5) {
		if len(streets) > 8 {
			list = append(list, townOf(5, streets...))
		}
	}
	return list
}

// townByHand tells whether a town is one.
func townByHand(town impl.Town) bool {
	if town.Places != 2 && town.Places != 3 && town.Places != 4 && town.Places != 5 {
		return false
	}
	own := streetsByHand(town.Places)
	if slices.ContainsFunc(town.Streets, func(street int) bool { return !slices.Contains(own, street) }) {
		return false
	}
	return len(town.Streets) < 9 && slices.Equal(slices.Compact(slices.Sorted(slices.Values(town.Streets))), town.Streets)
}

// joinedByHand tells whether the last place can be reached from the first one without the streets of a set: places that are reached spread over all other streets.
func joinedByHand(town impl.Town, without int) bool {
	reached := map[int]bool{0: true}
	for range town.Places {
		for at, street := range town.Streets {
			if lesser, greater := street/10, street%10; !slices.Contains(bitsOf(without), at) && (reached[lesser] || reached[greater]) {
				reached[lesser], reached[greater] = true, true
			}
		}
	}
	return reached[town.Places-1]
}

// wayByHand tells whether a set of streets is a way: from the first place on there is just one of them that is left to go on by, and at the last place none is left.
func wayByHand(town impl.Town, set int) bool {
	var left []int
	for _, at := range bitsOf(set) {
		left = append(left, town.Streets[at])
	}
	for place := 0; place != town.Places-1; {
		begins := func(street int) bool { return street/10 == place || street%10 == place }
		at := slices.IndexFunc(left, begins)
		if at < 0 || slices.ContainsFunc(left[at+1:], begins) {
			return false
		}
		place = left[at]/10 + left[at]%10 - place
		left = slices.Delete(left, at, at+1)
	}
	return len(left) == 0
}

// waysByHand tries all sets of streets.
func waysByHand(town impl.Town) []int {
	var ways []int
	for set := range 1 << len(town.Streets) {
		if wayByHand(town, set) {
			ways = append(ways, set)
		}
	}
	return ways
}

// shared tells whether two ways of a list have a common street.
func shared(ways []int, list []int) bool {
	for i, a := range list {
		for _, b := range list[:i] {
			if ways[a]&ways[b] != 0 {
				return true
			}
		}
	}
	return false
}

// goByHand tries all lists of ways of which no two have a common street, and takes the longest one, of those that are as long the first one in the order of rows of numbers.
func goByHand(town impl.Town) []int {
	ways := waysByHand(town)
	var apart [][]int
	for set := range 1 << len(ways) {
		if list := bitsOf(set); !shared(ways, list) {
			apart = append(apart, list)
		}
	}
	first := slices.MinFunc(apart, func(a []int, b []int) int {
		return cmp.Or(cmp.Compare(len(b), len(a)), slices.Compare(a, b))
	})
	return weightsOf(len(ways), func(at int) int { return oneOrNone(slices.Contains(first, at)) })
}

// guardByHand tries all sets of streets without which the last place is not reached, and takes the smallest one, of those that are as small the one of the least sum; nil if it is not reached at all.
func guardByHand(town impl.Town) []int {
	if !joinedByHand(town, 0) {
		return nil
	}
	var cuts []int
	for set := range 1 << len(town.Streets) {
		if !joinedByHand(town, set) {
			cuts = append(cuts, set)
		}
	}
	first := bitsOf(slices.MinFunc(cuts, func(a int, b int) int {
		return cmp.Or(cmp.Compare(len(bitsOf(a)), len(bitsOf(b))), cmp.Compare(a, b))
	}))
	return weightsOf(len(town.Streets), func(at int) int { return oneOrNone(slices.Contains(first, at)) })
}

// guardGameByHand asks of each way whether it goes through the street.
func guardGameByHand(town impl.Town) [][]int {
	ways := waysByHand(town)
	if len(ways) == 0 {
		return nil
	}
	return gameOf(len(town.Streets), len(ways), func(street int, way int) int {
		return oneOrNone(slices.Contains(bitsOf(ways[way]), street))
	})
}

// streetsAt is how many streets a place has.
func streetsAt(town impl.Town, place int) int {
	many := 0
	for _, street := range town.Streets {
		many += oneOrNone(street/10 == place || street%10 == place)
	}
	return many
}

// townExamples are towns with all that is told of them, worked out on paper.
var townExamples = []struct {
	town  impl.Town
	ways  []int
	most  int
	goes  []int
	guard []int
}{
	// No streets, or no way: none at the first place, none at the last one, or they do not meet.
	{townOf(2), nil, 0, nil, nil},
	{townOf(5), nil, 0, nil, nil},
	{townOf(3, 1), nil, 0, nil, nil},
	{townOf(3, 12), nil, 0, nil, nil},
	{townOf(4, 1, 2, 12), nil, 0, nil, nil},
	{townOf(4, 12, 13, 23), nil, 0, nil, nil},
	{townOf(4, 1, 23), nil, 0, nil, nil},
	{townOf(5, 1, 23, 24, 34), nil, 0, nil, nil},
	{townOf(5, 1, 2, 12, 34), nil, 0, nil, nil},
	{townOf(5, 1, 2, 3, 12, 13, 23), nil, 0, nil, nil},
	{townOf(5, 12, 13, 14, 23, 24, 34), nil, 0, nil, nil},
	// One way: of one street, of some, of all, and beside streets that lead nowhere.
	{townOf(2, 1), []int{1}, 1, []int{1}, []int{1}},
	{townOf(5, 4), []int{1}, 1, []int{1}, []int{1}},
	{townOf(3, 1, 12), []int{3}, 1, []int{1}, []int{1, 0}},
	{townOf(5, 1, 12, 23, 34), []int{15}, 1, []int{1}, []int{1, 0, 0, 0}},
	{townOf(5, 2, 13, 14, 23), []int{15}, 1, []int{1}, []int{1, 0, 0, 0}},
	{townOf(3, 1, 2), []int{2}, 1, []int{1}, []int{0, 1}},
	{townOf(5, 1, 2, 3, 4), []int{8}, 1, []int{1}, []int{0, 0, 0, 1}},
	{townOf(5, 4, 14, 24, 34), []int{1}, 1, []int{1}, []int{1, 0, 0, 0}},
	// All ways go through one street: the first one, the last one, or one in between.
	{townOf(4, 1, 12, 13, 23), []int{5, 11}, 1, []int{1, 0}, []int{1, 0, 0, 0}},
	{townOf(4, 1, 2, 12, 13), []int{9, 14}, 1, []int{1, 0}, []int{0, 0, 0, 1}},
	{townOf(5, 1, 2, 12, 23, 34), []int{26, 29}, 1, []int{1, 0}, []int{0, 0, 0, 1, 0}},
	{townOf(5, 2, 3, 12, 14, 23), []int{13, 30}, 1, []int{1, 0}, []int{0, 0, 1, 0, 0}},
	// The first way is the longer one.
	{townOf(4, 2, 12, 13, 23), []int{7, 9}, 1, []int{1, 0}, []int{1, 0, 0, 0}},
	// Ways that are apart.
	{townOf(3, 1, 2, 12), []int{2, 5}, 2, []int{1, 1}, []int{1, 1, 0}},
	{townOf(4, 1, 2, 12, 13, 23), []int{9, 14, 18, 21}, 2, []int{1, 0, 1, 0}, []int{1, 1, 0, 0, 0}},
	{townOf(4, 1, 2, 3, 12, 13, 23), []int{4, 17, 26, 34, 41}, 3, []int{1, 1, 0, 1, 0}, []int{1, 1, 1, 0, 0, 0}},
	{townOf(5, 1, 2, 3, 4, 14, 24, 34), []int{8, 17, 34, 68}, 4, []int{1, 1, 1, 1}, []int{1, 1, 1, 1, 0, 0, 0}},
	{townOf(5, 1, 2, 3, 4, 12, 14, 24, 34), []int{8, 33, 50, 66, 81, 132}, 4, []int{1, 1, 0, 1, 0, 1}, []int{1, 1, 1, 1, 0, 0, 0, 0}},
	// With the first way, or with the first two, there would be fewer.
	{townOf(5, 2, 3, 12, 13, 14, 24), []int{21, 26, 33, 46}, 2, []int{0, 1, 1, 0}, []int{1, 1, 0, 0, 0, 0}},
	{townOf(5, 2, 3, 4, 12, 13, 14, 24), []int{4, 41, 50, 65, 90}, 3, []int{1, 0, 1, 1, 0}, []int{1, 1, 1, 0, 0, 0, 0}},
	// The list with the first way is first, though the sum of another one, of the ways 1 and 2, or 1 and 3, is less.
	{townOf(5, 1, 3, 12, 13, 14, 24), []int{17, 26, 37, 46}, 2, []int{1, 0, 0, 1}, []int{1, 1, 0, 0, 0, 0}},
	{townOf(5, 1, 3, 12, 13, 14, 23, 24, 34), []int{17, 26, 54, 69, 78, 98, 105, 130, 137, 165}, 2, []int{1, 0, 0, 0, 1, 0, 0, 0, 0, 0}, []int{1, 1, 0, 0, 0, 0, 0, 0}},
	// Fewer streets cut the town than the first place has, and than the last one has, or others than these.
	{townOf(5, 1, 2, 3, 13, 14, 24), []int{17, 28, 34}, 2, []int{1, 0, 1}, []int{0, 1, 0, 0, 1, 0}},
	{townOf(5, 1, 2, 3, 14, 23, 24), []int{9, 34, 52}, 2, []int{1, 1, 0}, []int{1, 0, 0, 0, 0, 1}},
	{townOf(5, 1, 2, 3, 4, 13, 14, 24), []int{8, 33, 52, 66}, 3, []int{1, 1, 0, 1}, []int{0, 1, 0, 1, 0, 1, 0}},
	{townOf(5, 2, 3, 4, 12, 14, 23), []int{4, 25, 58}, 2, []int{1, 1, 0}, []int{0, 0, 1, 1, 0, 0}},
}

func TestMaxTown(t *testing.T) {
	if impl.MaxTown != 5 || impl.MaxStreets != 8 {
		t.Fatalf("MaxTown = %d, MaxStreets = %d", impl.MaxTown, impl.MaxStreets)
	}
}

func TestPromise43TwoPlacesAreATown(t *testing.T) {
	for _, town := range []impl.Town{{Places: 2}, {Places: 2, Streets: []int{}}, townOf(2, 1)} {
		if !impl.TownOk(town) {
			t.Errorf("TownOk(%v) = false", town)
		}
	}
}

func TestPromise43WithoutTheLastStreet(t *testing.T) {
	for _, town := range towns() {
		if !impl.TownOk(town) {
			t.Errorf("TownOk(%v) = false", town)
		}
		if many := len(town.Streets); many > 0 && !impl.TownOk(townOf(town.Places, town.Streets[:many-1]...)) {
			t.Errorf("TownOk(%v) = true, but without its last street it is false", town)
		}
	}
}

func TestPromise43AsManyStreetsAsMayBe(t *testing.T) {
	for places := 2; places <= 5; places++ {
		for _, streets := range streetSets(places) {
			if ok := impl.TownOk(townOf(places, streets...)); ok != (len(streets) <= 8) {
				t.Errorf("TownOk(%v) = %v", townOf(places, streets...), ok)
			}
		}
	}
}

func TestPromise43OneStreet(t *testing.T) {
	for places := -20; places <= 20; places++ {
		for street := -300; street <= 300; street++ {
			if town := townOf(places, street); impl.TownOk(town) != townByHand(town) {
				t.Errorf("TownOk(%v) = %v", town, !townByHand(town))
			}
		}
	}
}

func TestPromise43TwoStreets(t *testing.T) {
	for places := 1; places <= 6; places++ {
		for one := -15; one <= 60; one++ {
			for other := -15; other <= 60; other++ {
				if town := townOf(places, one, other); impl.TownOk(town) != townByHand(town) {
					t.Errorf("TownOk(%v) = %v", town, !townByHand(town))
				}
			}
		}
	}
}

func TestPromise43NoTowns(t *testing.T) {
	for _, town := range noTowns() {
		if townByHand(town) {
			t.Fatalf("%v is a town", town)
		}
		if impl.TownOk(town) {
			t.Errorf("TownOk(%v) = true", town)
		}
	}
}

func TestPromise44AllWays(t *testing.T) {
	for _, town := range towns() {
		if ways, want := impl.WaysOf(town), waysByHand(town); !slices.Equal(ways, want) {
			t.Fatalf("WaysOf(%v) = %v, not %v", town, ways, want)
		}
	}
}

func TestPromise44FewerStreetsHaveFewerWays(t *testing.T) {
	for _, town := range towns() {
		last := len(town.Streets) - 1
		if last < 0 {
			continue
		}
		left := slices.DeleteFunc(impl.WaysOf(town), func(way int) bool { return way>>last&1 == 1 })
		if ways := impl.WaysOf(withoutStreet(town, last)); !slices.Equal(ways, left) {
			t.Fatalf("WaysOf(%v) = %v without the last street, not %v", town, ways, left)
		}
	}
}

func TestPromise44NoWayHasAllStreetsOfAnother(t *testing.T) {
	for _, town := range towns() {
		ways := impl.WaysOf(town)
		for i, way := range ways {
			for k, other := range ways {
				if i != k && way&other == other {
					t.Fatalf("WaysOf(%v) = %v, of which %d has all streets of %d", town, ways, way, other)
				}
			}
		}
	}
}

func TestPromise44Examples(t *testing.T) {
	for _, c := range townExamples {
		if ways := impl.WaysOf(c.town); !slices.Equal(ways, c.ways) {
			t.Errorf("WaysOf(%v) = %v, not %v", c.town, ways, c.ways)
		}
	}
}

func TestPromise44TownsWithoutAWay(t *testing.T) {
	for _, town := range townsWithout() {
		if ways := impl.WaysOf(town); len(ways) > 0 {
			t.Errorf("WaysOf(%v) = %v", town, ways)
		}
	}
}

func TestPromise44NoTowns(t *testing.T) {
	for _, town := range noTowns() {
		if ways := impl.WaysOf(town); len(ways) > 0 {
			t.Errorf("WaysOf(%v) = %v", town, ways)
		}
	}
}

func TestPromise45TownsWithAWayAreGames(t *testing.T) {
	for _, town := range townsWithAWay() {
		g := impl.GuardGame(town)
		if !impl.GameOk(g) || !reflect.DeepEqual(g, guardGameByHand(town)) {
			t.Fatalf("GuardGame(%v) = %v, not %v", town, g, guardGameByHand(town))
		}
	}
}

func TestPromise45GamesAreWorthOneByWays(t *testing.T) {
	solved := 0
	for _, town := range townsWithAWay() {
		g := impl.GuardGame(town)
		worth, ok := impl.WorthOf(g)
		if ok != (len(g) <= 4 && len(g[0]) <= 4) || ok && worth != oneBy(impl.MostWays(town)) {
			t.Fatalf("the game of the town %v is worth %v, %v, but %d ways are apart", town, worth, ok, impl.MostWays(town))
		}
		solved += oneOrNone(ok)
	}
	if solved != 297 {
		t.Fatalf("%d games of towns are solved", solved)
	}
}

// TestPromise45SmallerGamesOfTowns solves games of more streets and ways, from which what is worse is taken away: they are worth as much.
func TestPromise45SmallerGamesOfTowns(t *testing.T) {
	solved := 0
	for _, town := range townsWithAWay() {
		worth, ok := impl.WorthOf(impl.SmallerOf(impl.GuardGame(town)))
		if ok && worth != oneBy(impl.MostWays(town)) {
			t.Fatalf("the game of the town %v, made smaller, is worth %v, but %d ways are apart", town, worth, impl.MostWays(town))
		}
		solved += oneOrNone(ok)
	}
	if solved < 700 {
		t.Fatalf("%d games of towns are solved", solved)
	}
}

func TestPromise45Examples(t *testing.T) {
	for _, c := range []struct {
		town impl.Town
		want [][]int
	}{
		{townOf(2, 1), [][]int{{1}}},
		{townOf(3, 1, 2), [][]int{{0}, {1}}},
		{townOf(3, 1, 12), [][]int{{1}, {1}}},
		{townOf(3, 1, 2, 12), [][]int{{0, 1}, {1, 0}, {0, 1}}},
		{townOf(4, 1, 2, 12, 13, 23), [][]int{{1, 0, 0, 1}, {0, 1, 1, 0}, {0, 1, 0, 1}, {1, 1, 0, 0}, {0, 0, 1, 1}}},
		{townOf(5, 4, 14, 24, 34), [][]int{{1}, {0}, {0}, {0}}},
		{townOf(5, 1, 2, 12, 23, 34), [][]int{{0, 1}, {1, 0}, {0, 1}, {1, 1}, {1, 1}}},
	} {
		if g := impl.GuardGame(c.town); !reflect.DeepEqual(g, c.want) {
			t.Errorf("GuardGame(%v) = %v, not %v", c.town, g, c.want)
		}
	}
	if g := impl.GuardGame(townOf(5, 1, 3, 12, 13, 14, 23, 24, 34)); len(g) != 8 || len(g[0]) != 10 {
		t.Errorf("the game of eight streets and ten ways is %v", g)
	}
}

func TestPromise45TownsWithoutAWay(t *testing.T) {
	for _, town := range townsWithout() {
		if g := impl.GuardGame(town); len(g) > 0 {
			t.Errorf("GuardGame(%v) = %v", town, g)
		}
	}
}

func TestPromise45NoTowns(t *testing.T) {
	for _, town := range noTowns() {
		if g := impl.GuardGame(town); len(g) > 0 {
			t.Errorf("GuardGame(%v) = %v", town, g)
		}
	}
}

func TestPromise46AsManyWaysApartAsStreetsOfACut(t *testing.T) {
	for _, town := range townsWithAWay() {
		most := impl.MostWays(town)
		if guard := impl.GuardPlan(town); total(guard) != most || slices.Max(guard) != 1 || slices.Min(guard) < 0 {
			t.Fatalf("MostWays(%v) = %d, but GuardPlan = %v", town, most, guard)
		}
		if goes := impl.GoPlan(town); total(goes) != most || slices.Max(goes) != 1 || slices.Min(goes) < 0 {
			t.Fatalf("MostWays(%v) = %d, but GoPlan = %v", town, most, goes)
		}
	}
}

func TestPromise46MostWaysAndFewestStreets(t *testing.T) {
	for _, town := range towns() {
		goes, guard := goByHand(town), guardByHand(town)
		if most := impl.MostWays(town); most != total(goes) || most != total(guard) {
			t.Fatalf("MostWays(%v) = %d, but %v are apart, and %v cut all ways", town, most, goes, guard)
		}
	}
}

func TestPromise46StreetsOfTheFirstPlaceAndOfTheLast(t *testing.T) {
	for _, town := range towns() {
		first, last := streetsAt(town, 0), streetsAt(town, town.Places-1)
		if most := impl.MostWays(town); most > min(first, last) {
			t.Fatalf("MostWays(%v) = %d, but its first place has %d streets, and its last one %d", town, most, first, last)
		}
	}
}

// TestPromise46WithoutOneStreet takes away each street: a town with it is not worth more, and one street guards one way.
func TestPromise46WithoutOneStreet(t *testing.T) {
	for _, town := range towns() {
		most := impl.MostWays(town)
		for at := range town.Streets {
			if left := impl.MostWays(withoutStreet(town, at)); left != most && left != most-1 {
				t.Fatalf("MostWays(%v) = %d, but %d without the street %d", town, most, left, at)
			}
		}
	}
}

func TestPromise46Examples(t *testing.T) {
	for _, c := range townExamples {
		if most := impl.MostWays(c.town); most != c.most {
			t.Errorf("MostWays(%v) = %d, not %d", c.town, most, c.most)
		}
	}
}

func TestPromise46TownsWithoutAWay(t *testing.T) {
	for _, town := range townsWithout() {
		if most := impl.MostWays(town); most != 0 {
			t.Errorf("MostWays(%v) = %d", town, most)
		}
	}
}

func TestPromise46NoTowns(t *testing.T) {
	for _, town := range noTowns() {
		if most := impl.MostWays(town); most != -1 {
			t.Errorf("MostWays(%v) = %d", town, most)
		}
	}
}

func TestPromise47WaysThatAreApartAreNotGuardedTwoAtOnce(t *testing.T) {
	for _, town := range townsWithAWay() {
		g, goes := impl.GuardGame(town), impl.GoPlan(town)
		if risk, ok := impl.RiskOf(g, goes); !ok || risk != oneBy(impl.MostWays(town)) {
			t.Fatalf("GoPlan(%v) = %v risks %v, %v", town, goes, risk, ok)
		}
	}
}

func TestPromise47TheFirstWaysThatAreApart(t *testing.T) {
	for _, town := range towns() {
		if goes, want := impl.GoPlan(town), goByHand(town); !slices.Equal(goes, want) {
			t.Fatalf("GoPlan(%v) = %v, not %v", town, goes, want)
		}
	}
}

func TestPromise47Examples(t *testing.T) {
	for _, c := range townExamples {
		if goes := impl.GoPlan(c.town); !slices.Equal(goes, c.goes) {
			t.Errorf("GoPlan(%v) = %v, not %v", c.town, goes, c.goes)
		}
	}
}

func TestPromise47TownsWithoutAWay(t *testing.T) {
	for _, town := range townsWithout() {
		if goes := impl.GoPlan(town); len(goes) > 0 {
			t.Errorf("GoPlan(%v) = %v", town, goes)
		}
	}
}

func TestPromise47NoTowns(t *testing.T) {
	for _, town := range noTowns() {
		if goes := impl.GoPlan(town); len(goes) > 0 {
			t.Errorf("GoPlan(%v) = %v", town, goes)
		}
	}
}

func TestPromise48CutsCatchOnEachWay(t *testing.T) {
	for _, town := range townsWithAWay() {
		g, guard := impl.GuardGame(town), impl.GuardPlan(town)
		if safe, ok := impl.SafeOf(g, guard); !ok || safe != oneBy(impl.MostWays(town)) {
			t.Fatalf("GuardPlan(%v) = %v is safe for %v, %v", town, guard, safe, ok)
		}
	}
}

func TestPromise48BothPlansAreSettled(t *testing.T) {
	for _, town := range townsWithAWay() {
		guard, goes := impl.GuardPlan(town), impl.GoPlan(town)
		if !impl.SettledOk(impl.GuardGame(town), guard, goes) {
			t.Fatalf("for the town %v, %v and %v are not settled", town, guard, goes)
		}
	}
}

func TestPromise48TheFirstStreetsThatCutAllWays(t *testing.T) {
	for _, town := range towns() {
		if guard, want := impl.GuardPlan(town), guardByHand(town); !slices.Equal(guard, want) {
			t.Fatalf("GuardPlan(%v) = %v, not %v", town, guard, want)
		}
	}
}

func TestPromise48Examples(t *testing.T) {
	for _, c := range townExamples {
		if guard := impl.GuardPlan(c.town); !slices.Equal(guard, c.guard) {
			t.Errorf("GuardPlan(%v) = %v, not %v", c.town, guard, c.guard)
		}
	}
}

func TestPromise48TownsWithoutAWay(t *testing.T) {
	for _, town := range townsWithout() {
		if guard := impl.GuardPlan(town); len(guard) > 0 {
			t.Errorf("GuardPlan(%v) = %v", town, guard)
		}
	}
}

func TestPromise48NoTowns(t *testing.T) {
	for _, town := range noTowns() {
		if guard := impl.GuardPlan(town); len(guard) > 0 {
			t.Errorf("GuardPlan(%v) = %v", town, guard)
		}
	}
}

// roomyTown is a copy of a town with room behind its streets, and the memory of these, as in roomy.
func roomyTown(town impl.Town) (impl.Town, [][]int) {
	lists, whole := roomy([][]int{town.Streets})
	return townOf(town.Places, lists[0]...), whole
}

func TestTownsAreNotWrittenTo(t *testing.T) {
	for _, town := range append(towns(), noTowns()...) {
		given, whole := roomyTown(town)
		before := wholeOf(whole)
		impl.TownOk(given)
		impl.WaysOf(given)
		impl.GuardGame(given)
		impl.MostWays(given)
		impl.GoPlan(given)
		impl.GuardPlan(given)
		if after := wholeOf(whole); !reflect.DeepEqual(after, before) {
			t.Fatalf("%v is %v behind the calls", before, after)
		}
	}
}

func TestTownsShareNoMemory(t *testing.T) {
	for _, town := range towns() {
		given, whole := roomyTown(town)
		testApart(t, whole, impl.GuardGame(given), impl.GuardGame(given))
		given, whole = roomyTown(town)
		for range 2 {
			whole = append(whole, impl.WaysOf(given), impl.GoPlan(given), impl.GuardPlan(given))
		}
		if !apart(whole...) {
			t.Fatalf("the ways or the plans for the town %v share memory", town)
		}
	}
}

// TestTownsAreAsBefore overwrites what was returned, and asks again.
func TestTownsAreAsBefore(t *testing.T) {
	for _, town := range towns() {
		spoil(impl.GuardGame(town))
		spoil([][]int{impl.WaysOf(town), impl.GoPlan(town), impl.GuardPlan(town)})
	}
	for _, town := range towns() {
		if !slices.Equal(impl.WaysOf(town), waysByHand(town)) || !reflect.DeepEqual(impl.GuardGame(town), guardGameByHand(town)) {
			t.Fatalf("the ways of the town %v, or its game, have changed", town)
		}
		if !slices.Equal(impl.GoPlan(town), goByHand(town)) || !slices.Equal(impl.GuardPlan(town), guardByHand(town)) {
			t.Fatalf("the plans for the town %v have changed", town)
		}
	}
}
