package tests

import (
	"fmt"
	"math/bits"
	"slices"
	"strings"
	"testing"

	"loop.example/g03305/impl"
)

// squaresUnder returns the squares under a strip, one bit for each, with eight bits for the squares of one height above each other.
func squaresUnder(s string) uint64 {
	squares := uint64(0)
	points := walkOf(s, 1)
	for i := range len(s) {
		if s[i] == 'f' {
			squares |= (1<<points[i][1] - 1) << (maxSteps * points[i][0])
		}
	}
	return squares
}

// stripOver returns the strip of a frame under which these squares lie.
func stripOver(down int, forward int, squares uint64) string {
	s, height := "", down
	for x := range forward {
		next := bits.OnesCount8(uint8(squares >> (maxSteps * x)))
		s += strings.Repeat("d", height-next) + "f"
		height = next
	}
	return s + strings.Repeat("d", height)
}

// wantUpper returns the strip over the squares under either of two strips of one frame.
func wantUpper(s string, u string) string {
	return stripOver(strings.Count(s, "d"), strings.Count(s, "f"), squaresUnder(s)|squaresUnder(u))
}

// wantLower returns the strip over the squares under both of two strips of one frame.
func wantLower(s string, u string) string {
	return stripOver(strings.Count(s, "d"), strings.Count(s, "f"), squaresUnder(s)&squaresUnder(u))
}

// checkIsAbove expects this result of IsAbove.
func checkIsAbove(t *testing.T, s string, u string, want bool) {
	t.Helper()
	if got := impl.IsAbove(s, u); got != want {
		t.Errorf("IsAbove(%.40q, %.40q) = %v", s, u, got)
	}
}

// checkPair expects this upper and this lower strip, and that two strips are comparable or not.
func checkPair(t *testing.T, s string, u string, comparable bool, upper string, lower string) {
	t.Helper()
	if got := impl.UpperOf(s, u); got != upper {
		t.Errorf("UpperOf(%.40q, %.40q) = %q, want %q", s, u, got, upper)
	}
	if got := impl.LowerOf(s, u); got != lower {
		t.Errorf("LowerOf(%.40q, %.40q) = %q, want %q", s, u, got, lower)
	}
	if got := impl.AreComparable(s, u); got != comparable {
		t.Errorf("AreComparable(%.40q, %.40q) = %v", s, u, got)
	}
}

// checkOrderIs expects that s is above u or not and below it or not, and this upper and this lower strip, in both orders.
func checkOrderIs(t *testing.T, s string, u string, above bool, below bool, upper string, lower string) {
	t.Helper()
	checkIsAbove(t, s, u, above)
	checkIsAbove(t, u, s, below)
	checkPair(t, s, u, above || below, upper, lower)
	checkPair(t, u, s, above || below, upper, lower)
}

// checkOrder compares the order of two strips of one frame with that of the squares under them.
func checkOrder(t *testing.T, s string, u string) {
	t.Helper()
	under, other := squaresUnder(s), squaresUnder(u)
	checkOrderIs(t, s, u, other&^under == 0, under&^other == 0, wantUpper(s, u), wantLower(s, u))
}

// checkOver expects that s is above another strip u of the same frame.
func checkOver(t *testing.T, s string, u string) {
	t.Helper()
	checkOrderIs(t, s, u, true, false, s, u)
	checkOrder(t, s, u)
}

// checkCross expects that neither strip is above the other one.
func checkCross(t *testing.T, s string, u string, upper string, lower string) {
	t.Helper()
	checkOrderIs(t, s, u, false, false, upper, lower)
	checkOrder(t, s, u)
	checkOver(t, upper, s)
	checkOver(t, upper, u)
	checkOver(t, s, lower)
	checkOver(t, u, lower)
}

// checkNoOrder expects that two texts which are no strips of one frame are rejected, in both orders.
func checkNoOrder(t *testing.T, s string, u string) {
	t.Helper()
	checkOrderIs(t, s, u, false, false, "", "")
}

// checkRooms expects that the rooms under both pairs are equal, and that what lies between both strips lies between the upper and the lower one.
func checkRooms(t *testing.T, s string, u string) {
	t.Helper()
	upper, lower, roomOf := impl.UpperOf(s, u), impl.LowerOf(s, u), impl.RoomUnder
	if roomOf(upper) < 0 || roomOf(lower) < 0 || roomOf(upper)+roomOf(lower) != roomOf(s)+roomOf(u) {
		t.Errorf("rooms %d and %d under %q and %q, but %d and %d under %q and %q", roomOf(s), roomOf(u), s, u, roomOf(upper), roomOf(lower), upper, lower)
	}
	if impl.AreaBetween(upper, lower) != impl.AreaBetween(s, u) || roomOf(upper)-roomOf(lower) != impl.AreaBetween(s, u) {
		t.Errorf("area %d between %q and %q, but %d between %q and %q", impl.AreaBetween(s, u), s, u, impl.AreaBetween(upper, lower), upper, lower)
	}
}

// checkLaws expects what holds for any three strips of a lattice.
func checkLaws(t *testing.T, s string, u string, v string) {
	t.Helper()
	above, upper, lower := impl.IsAbove, impl.UpperOf, impl.LowerOf
	if above(s, u) && above(u, v) && !above(s, v) {
		t.Errorf("%q is above %q, this one above %q, but the first one is not above the last one", s, u, v)
	}
	if above(v, upper(s, u)) != (above(v, s) && above(v, u)) {
		t.Errorf("%q is no least strip above %q and %q: look at %q", upper(s, u), s, u, v)
	}
	if above(lower(s, u), v) != (above(s, v) && above(u, v)) {
		t.Errorf("%q is no greatest strip below %q and %q: look at %q", lower(s, u), s, u, v)
	}
	if upper(upper(s, u), v) != upper(s, upper(u, v)) || lower(lower(s, u), v) != lower(s, lower(u, v)) {
		t.Errorf("%q, %q and %q have other upper or lower strips if the last two are taken first", s, u, v)
	}
	if upper(s, lower(u, v)) != lower(upper(s, u), upper(s, v)) || lower(s, upper(u, v)) != upper(lower(s, u), lower(s, v)) {
		t.Errorf("upper and lower strips of %q, %q and %q cannot be distributed", s, u, v)
	}
}

// checkTwoLaws expects what holds for any two strips of a lattice.
func checkTwoLaws(t *testing.T, s string, u string) {
	t.Helper()
	above, upper, lower := impl.IsAbove, impl.UpperOf, impl.LowerOf
	if !impl.SameFrame(upper(s, u), s) || !impl.SameFrame(lower(s, u), s) {
		t.Errorf("%q and %q are not in the frame of %q and %q", upper(s, u), lower(s, u), s, u)
	}
	if (above(s, u) && above(u, s)) != (s == u) {
		t.Errorf("%q and %q are above each other: %v, %v", s, u, above(s, u), above(u, s))
	}
	if above(s, u) != (upper(s, u) == s) || above(s, u) != (lower(s, u) == u) {
		t.Errorf("IsAbove(%q, %q) = %v, but the upper one is %q, the lower one %q", s, u, above(s, u), upper(s, u), lower(s, u))
	}
	if upper(s, lower(s, u)) != s || lower(s, upper(s, u)) != s {
		t.Errorf("%q is not the upper one of it and %q, or not the lower one of it and %q", s, lower(s, u), upper(s, u))
	}
}

func TestOrderOfAllSmallStrips(t *testing.T) {
	for _, frame := range [][2]int{{1, 1}, {1, 2}, {2, 1}, {2, 2}, {1, 5}, {5, 1}, {2, 3}, {3, 2}, {3, 3}, {2, 5}, {4, 2}, {4, 3}, {4, 4}, {1, maxSteps}, {maxSteps, 1}} {
		strips := stripsOf(frame[0], frame[1])
		for _, s := range strips {
			if over := stripOver(frame[0], frame[1], squaresUnder(s)); over != s {
				t.Fatalf("the strip over the squares under %q is %q", s, over)
			}
			for _, u := range strips {
				checkOrder(t, s, u)
			}
		}
	}
}

func TestFlatAndHighStripsOfEveryFrame(t *testing.T) {
	for down := 1; down <= maxSteps; down++ {
		for forward := 1; forward <= maxSteps; forward++ {
			flat, high := impl.FlatStrip(down, forward), impl.HighStrip(down, forward)
			checkOver(t, high, flat)
			strips := append(nearlyHighStrips(down, forward), flat, high)
			for _, s := range nearlyHighStrips(forward, down) {
				// Read with the letters exchanged, a nearly high strip is nearly flat.
				strips = append(strips, strings.NewReplacer("d", "f", "f", "d").Replace(s))
			}
			for _, s := range strips {
				for _, u := range strips {
					checkOrder(t, s, u)
				}
			}
		}
	}
}

func TestFlatAndHighStripsAgainstAllOthers(t *testing.T) {
	for _, frame := range [][2]int{{1, 1}, {1, maxSteps}, {maxSteps, 1}, {2, 3}, {4, 4}, {maxSteps, 3}, {5, maxSteps}, {maxSteps, maxSteps}} {
		flat, high := impl.FlatStrip(frame[0], frame[1]), impl.HighStrip(frame[0], frame[1])
		for _, s := range stripsOf(frame[0], frame[1]) {
			checkOrderIs(t, high, s, true, s == high, high, s)
			checkOrderIs(t, s, flat, true, s == flat, s, flat)
		}
	}
}

func TestOrderOfStripsOfTheGreatestFrame(t *testing.T) {
	some := someStrips(maxSteps, maxSteps, 131)
	for _, s := range some {
		for _, u := range some {
			checkOrder(t, s, u)
			checkRooms(t, s, u)
		}
	}
}

func TestEqualStripsAreAboveEachOther(t *testing.T) {
	for _, frame := range [][2]int{{1, 1}, {1, maxSteps}, {maxSteps, 1}, {2, 3}, {4, 4}, {maxSteps, maxSteps}} {
		for i, s := range stripsOf(frame[0], frame[1]) {
			if i%7 == 0 || len(s) < maxSteps {
				// The copy is a string of its own.
				checkOrderIs(t, s, strings.Clone(s), true, true, s, s)
			}
		}
	}
}

func TestStripsWithOneStepOfAKindAreAllComparable(t *testing.T) {
	for n := 1; n <= maxSteps; n++ {
		d, f := strings.Repeat("d", n), strings.Repeat("f", n)
		for i := range n + 1 {
			for j := range i {
				checkOver(t, f[:i]+"d"+f[i:], f[:j]+"d"+f[j:])
				checkOver(t, d[:j]+"f"+d[j:], d[:i]+"f"+d[i:])
			}
		}
	}
	checkOver(t, "fd", "df")
}

func TestExchangedStepsAreAbove(t *testing.T) {
	for _, s := range slices.Concat(stripsOf(4, 3), stripsOf(1, maxSteps), nearlyHighStrips(maxSteps, maxSteps)) {
		for _, k := range impl.CornersOf(s) {
			if impl.IsValley(s, k) {
				checkOver(t, s[:k-1]+"fd"+s[k+1:], s)
			}
		}
	}
}

func TestStripsThatMeetOnlyAtTheirEnds(t *testing.T) {
	checkOver(t, "ffdd", "ddff")
	checkOver(t, "fdfd", "ddff")
	checkOver(t, "fdffd", "ddfff")
	checkOver(t, "ffdfdd", "dfddff")
	checkOver(t, "fffffffddddd", "dddddfffffff")
	checkOver(t, "f"+strings.Repeat("fd", maxSteps-1)+"d", "d"+strings.Repeat("df", maxSteps-1)+"f")
}

func TestStripsThatTouch(t *testing.T) {
	checkOver(t, "fdfd", "dfdf")
	checkOver(t, "fdfdfd", "dfdfdf")
	checkOver(t, "ffddfd", "ddffdf")
	checkOver(t, "fdffdd", "dfddff")
	checkOver(t, "ffddfd", "dfdfdf")
	checkOver(t, strings.Repeat("fd", maxSteps), strings.Repeat("df", maxSteps))
}

func TestStripsAboveWithASharedPart(t *testing.T) {
	// At the beginning.
	checkOver(t, "ddffd", "ddfdf")
	checkOver(t, "fdfffdd", "fdddfff")
	checkOver(t, strings.Repeat("df", maxSteps-1)+"fd", strings.Repeat("df", maxSteps))
	// At the end.
	checkOver(t, "fddff", "dfdff")
	checkOver(t, "fffddfd", "ddffffd")
	checkOver(t, "fd"+strings.Repeat("df", maxSteps-1), strings.Repeat("df", maxSteps))
	// In the middle.
	checkOver(t, "fdffd", "dffdf")
	checkOver(t, "fddfdffd", "dfdfdfdf")
	checkOver(t, "ffddddddfd", "ddffdddddf")
	// At both ends.
	checkOver(t, "dffddf", "dfdfdf")
	checkOver(t, "ffdddfff", "fdfddfff")
	checkOver(t, "ddffffddff", "ddfdffdfff")
	// At both ends and in the middle.
	checkOver(t, "dffddffddf", "dfdfdfdfdf")
	checkOver(t, "ddfffddffddff", "dddfffddffdff")
}

func TestStripsThatCrossOnce(t *testing.T) {
	// In one point.
	checkCross(t, "fddf", "dffd", "fdfd", "dfdf")
	checkCross(t, "ffddddff", "ddffffdd", "ffddffdd", "ddffddff")
	checkCross(t, "dddffffffddd", "fffddddddfff", "fffdddfffddd", "dddfffdddfff")
	checkCross(t, "ffdddf", "dfffdd", "ffdfdd", "dffddf")
	// In one step.
	checkCross(t, "fdddf", "dfdfd", "fddfd", "dfddf")
	checkCross(t, "dfffd", "fdfdf", "fdffd", "dffdf")
	// In several steps.
	checkCross(t, "fdfddf", "dffdfd", "fdfdfd", "dffddf")
	checkCross(t, "fdddfdf", "dfddffd", "fdddffd", "dfddfdf")
	checkCross(t, "fddffddfdf", "dfdffddffd", "fddffddffd", "dfdffddfdf")
	// With a shared part at the beginning, at the end and at both ends.
	checkCross(t, "dffddf", "dfdffd", "dffdfd", "dfdfdf")
	checkCross(t, "fddfddf", "dffdddf", "fdfdddf", "dfdfddf")
	checkCross(t, "dffddffd", "dfdffdfd", "dffdfdfd", "dfdfdffd")
	checkCross(t, "ddffddff", "dddfffdf", "ddffdfdf", "dddffdff")
	// Just the last or the first two steps are the other way round.
	checkCross(t, "ffddddf", "ddffdfd", "ffdddfd", "ddffddf")
	checkCross(t, "fdddff", "dfffdd", "fdffdd", "dfddff")
}

func TestStripsThatCrossSeveralTimes(t *testing.T) {
	checkCross(t, "fddffd", "dffddf", "fdfdfd", "dfdfdf")
	checkCross(t, "fddffddf", "dffddffd", "fdfdfdfd", "dfdfdfdf")
	checkCross(t, "ffddddffffdd", "ddffffddddff", "ffddffddffdd", "ddffddffddff")
	checkCross(t, strings.Repeat("fddf", 4), strings.Repeat("dffd", 4), strings.Repeat("fd", maxSteps), strings.Repeat("df", maxSteps))
	// With a shared part between.
	checkCross(t, "fddfddffd", "dffddddff", "fdfdddffd", "dfdfdddff")
	checkCross(t, "fddfdfdffddf", "dffddfdfdffd", "fdfddfdffdfd", "dfdfdfdfdfdf")
	// They also touch before they cross, or after it.
	checkCross(t, "fdfddf", "dfdffd", "fdfdfd", "dfdfdf")
	checkCross(t, "fddfdf", "dffdfd", "fdfdfd", "dfdfdf")
}

func TestRoomsUnderBothPairsAreEqual(t *testing.T) {
	for _, frame := range [][2]int{{1, 1}, {1, maxSteps}, {maxSteps, 1}, {2, 2}, {2, 3}, {3, 3}, {4, 3}, {2, 6}} {
		strips := stripsOf(frame[0], frame[1])
		for _, s := range strips {
			for _, u := range strips {
				checkRooms(t, s, u)
			}
		}
	}
}

func TestUpperAndLowerStripsAreALattice(t *testing.T) {
	for _, strips := range [][]string{stripsOf(1, 1), stripsOf(2, 2), stripsOf(3, 2), stripsOf(2, 4), stripsOf(3, 3), stripsOf(1, maxSteps), stripsOf(maxSteps, 1), mixedCard(4, 4, 25).Strips, mixedCard(maxSteps, 5, 30).Strips, mixedCard(maxSteps, maxSteps, 30).Strips} {
		for _, s := range strips {
			for _, u := range strips {
				checkTwoLaws(t, s, u)
				for _, v := range strips {
					checkLaws(t, s, u, v)
				}
			}
		}
	}
}

// chooseOf returns in how many ways k of n things can be chosen.
func chooseOf(n int, k int) int {
	ways := 1
	for i := range k {
		ways = ways * (n - i) / (i + 1)
	}
	return ways
}

// pairsAbove returns how many pairs of strips of a frame are above each other. Pairs of paths that do not cross are told by a determinant of numbers of paths (Lindström, Gessel and Viennot).
func pairsAbove(down int, forward int) int {
	n := down + forward
	return chooseOf(n, down)*chooseOf(n, down) - chooseOf(n, down+1)*chooseOf(n, down-1)
}

func TestNumberOfStripsAboveEachOther(t *testing.T) {
	for down := 1; down <= maxSteps; down++ {
		for forward := 1; forward <= maxSteps && down+forward <= 9; forward++ {
			strips := stripsOf(down, forward)
			above, comparable := 0, 0
			for _, s := range strips {
				for _, u := range strips {
					if impl.IsAbove(s, u) {
						above++
					}
					if impl.AreComparable(s, u) {
						comparable++
					}
				}
			}
			want := pairsAbove(down, forward)
			if above != want || comparable != 2*want-len(strips) {
				t.Errorf("%d down, %d forward: %d pairs above each other and %d that are comparable, want %d and %d", down, forward, above, comparable, want, 2*want-len(strips))
			}
		}
	}
}

func TestOrderOfOtherTextsIsRejected(t *testing.T) {
	for _, pair := range pairsOfOtherTexts() {
		checkNoOrder(t, pair[0], pair[1])
	}
}

func TestOrderOfStripsOfDifferentFramesIsRejected(t *testing.T) {
	for _, pair := range pairsOfOtherFrames() {
		checkNoOrder(t, pair[0], pair[1])
	}
}

// combination is a function of the chapter that makes one card of two, with what it does to their strips.
type combination struct {
	name string
	run  func(b impl.Card, c impl.Card) (impl.Card, bool)
	want func(s string, u string) string
}

func combinations() []combination {
	return []combination{{"UpperCard", impl.UpperCard, wantUpper}, {"LowerCard", impl.LowerCard, wantLower}}
}

// shortText returns the beginning of what a card looks like: some cards have very many or very long strips.
func shortText(c impl.Card) string { return fmt.Sprintf("%.250s", fmt.Sprint(c)) }

// checkCombined expects that two cards lead to these strips, or are rejected if there are none.
func checkCombined(t *testing.T, f combination, b impl.Card, c impl.Card, strips []string) {
	t.Helper()
	want := impl.Card{}
	if strips != nil {
		want = cardOf(b.Down, b.Forward, strips...)
	}
	first, allFirst := withSpare(b)
	second, allSecond := withSpare(c)
	before := slices.Concat(allFirst, allSecond)
	// The result of the first round is overwritten, which the second one must not see.
	for range 2 {
		got, ok := f.run(first, second)
		if ok != (strips != nil) || !isEqualCard(got, want) {
			t.Errorf("%s(%s, %s) = %s, %v, want %s, %v", f.name, shortText(b), shortText(c), shortText(got), ok, shortText(want), strips != nil)
		}
		if !slices.Equal(slices.Concat(allFirst, allSecond), before) {
			t.Errorf("%s(%s, %s) changed its cards or the memory behind them", f.name, shortText(b), shortText(c))
		}
		overwrite(got)
		if !slices.Equal(slices.Concat(allFirst, allSecond), before) {
			t.Errorf("%s(%s, %s) shares memory with its cards", f.name, shortText(b), shortText(c))
		}
	}
}

// checkCardsAre expects these strips of the upper and of the lower card of two cards, in both orders.
func checkCardsAre(t *testing.T, b impl.Card, c impl.Card, upper []string, lower []string) {
	t.Helper()
	for i, strips := range [][]string{upper, lower} {
		f := combinations()[i]
		checkCombined(t, f, b, c, strips)
		checkCombined(t, f, c, b, strips)
	}
}

// checkCards compares the upper and the lower card of two valid cards with what the squares under their strips say.
func checkCards(t *testing.T, b impl.Card, c impl.Card) {
	t.Helper()
	lists := [2][]string{}
	for i, f := range combinations() {
		for k, s := range b.Strips {
			lists[i] = append(lists[i], f.want(s, c.Strips[k]))
		}
		checkCardOk(t, cardOf(b.Down, b.Forward, lists[i]...), true)
	}
	checkCardsAre(t, b, c, lists[0], lists[1])
}

// checkNoCards expects that two cards are rejected, in both orders.
func checkNoCards(t *testing.T, b impl.Card, c impl.Card) {
	t.Helper()
	checkCardsAre(t, b, c, nil, nil)
}

// checkCardRooms expects the same number of squares under the strips of some cards and under those of others.
func checkCardRooms(t *testing.T, cards []impl.Card, others []impl.Card) {
	t.Helper()
	rooms := [2]int{}
	for i, list := range [][]impl.Card{cards, others} {
		for _, c := range list {
			rooms[i] += impl.VolumeOf(c)
		}
	}
	if rooms[0] != rooms[1] {
		t.Errorf("%d squares under %v, %d under %v", rooms[0], cards, rooms[1], others)
	}
}

// checkTwoCards checks two cards that may be invalid or differ in their frames or numbers of strips.
func checkTwoCards(t *testing.T, b impl.Card, c impl.Card) {
	t.Helper()
	if isGoodCard(b) && isGoodCard(c) && b.Down == c.Down && b.Forward == c.Forward && len(b.Strips) == len(c.Strips) {
		checkCards(t, b, c)
	} else {
		checkNoCards(t, b, c)
	}
}

func TestUpperAndLowerCardsOfAllSmallCards(t *testing.T) {
	var cards []impl.Card
	for _, frame := range [][3]int{{1, 1, 3}, {1, 2, 3}, {2, 1, 2}, {2, 2, 2}, {1, 4, 1}, {3, 2, 1}} {
		cards = append(cards, cardsOf(frame[0], frame[1], frame[2])...)
	}
	for _, b := range cards {
		for _, c := range cards {
			checkTwoCards(t, b, c)
		}
	}
}

func TestUpperAndLowerCardsOfSmallCardsThatMayBeInvalid(t *testing.T) {
	var cards []impl.Card
	for _, strips := range listsOf([]string{"", "df", "fd", "dff", "d"}, 2) {
		for down := range 3 {
			for forward := range 3 {
				cards = append(cards, cardOf(down, forward, strips...))
			}
		}
	}
	for _, b := range cards {
		for _, c := range cards {
			checkTwoCards(t, b, c)
		}
	}
}

func TestUpperAndLowerCardsOfEveryNumberOfStrips(t *testing.T) {
	for _, frame := range [][2]int{{1, 1}, {2, 3}, {4, 4}, {maxSteps, 1}, {1, maxSteps}, {maxSteps, maxSteps}} {
		for n := range maxStrips + 3 {
			c := mixedCard(frame[0], frame[1], n)
			flat := cardOf(frame[0], frame[1], slices.Repeat([]string{impl.FlatStrip(frame[0], frame[1])}, n)...)
			high := cardOf(frame[0], frame[1], slices.Repeat([]string{impl.HighStrip(frame[0], frame[1])}, n)...)
			turned := cardOf(frame[0], frame[1], slices.Clone(c.Strips)...)
			slices.Reverse(turned.Strips)
			for _, b := range []impl.Card{c, flat, high, turned} {
				checkTwoCards(t, b, c)
				checkTwoCards(t, b, flat)
				checkTwoCards(t, b, high)
			}
		}
	}
}

func TestUpperAndLowerCardsOfSomeCards(t *testing.T) {
	checkCardsAre(t, cardOf(1, 1, "df"), cardOf(1, 1, "fd"), []string{"fd"}, []string{"df"})
	checkCardsAre(t, cardOf(2, 2, "fddf"), cardOf(2, 2, "dffd"), []string{"fdfd"}, []string{"dfdf"})
	b := cardOf(2, 2, "ddff", "dfdf", "dfdf")
	checkCardsAre(t, b, cardOf(2, 2, "fddf", "ddff", "ffdd"), []string{"fddf", "dfdf", "ffdd"}, []string{"ddff", "ddff", "dfdf"})
	// Equal cards.
	checkCardsAre(t, b, b, b.Strips, b.Strips)
	checkCardsAre(t, impl.SampleCard(), impl.SampleCard(), impl.SampleCard().Strips, impl.SampleCard().Strips)
	// Strips that cross at some indexes, are equal at others, and lie above each other both ways.
	checkCardsAre(t, cardOf(2, 2, "fddf", "dfdf", "ffdd", "dfdf", "dffd"), cardOf(2, 2, "dffd", "dfdf", "ddff", "fdfd", "fddf"),
		[]string{"fdfd", "dfdf", "ffdd", "fdfd", "fdfd"}, []string{"dfdf", "dfdf", "ddff", "dfdf", "dfdf"})
	checkCardsAre(t, impl.SampleCard(), cardOf(3, 4, "dddffff", "fdddfff", "dfdffdf", "dffffdd", "fffdfdd"),
		[]string{"dddffff", "fddffdf", "dfdffdf", "ffdffdd", "fffdfdd"}, []string{"dddffff", "dfddfff", "dfdffdf", "dffdffd", "dddffff"})
	// What is in the strips before or behind an index does not count.
	checkCardsAre(t, cardOf(1, 1, "fd", "df", "df"), cardOf(1, 1, "df", "df", "fd"), []string{"fd", "df", "fd"}, []string{"df", "df", "df"})
}

func TestUpperAndLowerCardsAreALattice(t *testing.T) {
	flat, _ := impl.PlainCard(maxSteps, maxSteps, maxStrips)
	many := mixedCard(maxSteps, maxSteps, 4*maxStrips).Strips
	great := []impl.Card{flat}
	for strips := range slices.Chunk(many, maxStrips) {
		great = append(great, cardOf(maxSteps, maxSteps, strips...))
	}
	// The slices leave out the cards of fewer strips, which come first.
	for _, cards := range [][]impl.Card{cardsOf(1, 1, 4)[2+4+8:], cardsOf(2, 1, 2)[3:], cardsOf(2, 2, 1), great} {
		for _, b := range cards {
			for _, c := range cards {
				upper, ok := impl.UpperCard(b, c)
				lower, too := impl.LowerCard(b, c)
				if !ok || !too {
					t.Fatalf("%v and %v are rejected: %v, %v", b, c, ok, too)
				}
				checkCardRooms(t, []impl.Card{b, c}, []impl.Card{upper, lower})
				checkCardsAre(t, b, lower, b.Strips, lower.Strips)
				checkCardsAre(t, b, upper, upper.Strips, b.Strips)
				for _, d := range cards {
					rest, _ := impl.UpperCard(c, d)
					all, _ := impl.UpperCard(b, rest)
					checkCombined(t, combinations()[0], upper, d, all.Strips)
					rest, _ = impl.LowerCard(c, d)
					all, _ = impl.LowerCard(b, rest)
					checkCombined(t, combinations()[1], lower, d, all.Strips)
				}
			}
		}
	}
}

func TestCardsThatShareTheirMemory(t *testing.T) {
	for n := 1; n <= maxStrips; n++ {
		for shift := range n + 1 {
			all := mixedCard(3, 3, 2*n).Strips
			before := slices.Clone(all)
			b, c := cardOf(3, 3, all[:n]...), cardOf(3, 3, all[shift:shift+n]...)
			for _, f := range combinations() {
				want := make([]string, n)
				for k := range n {
					want[k] = f.want(before[k], before[shift+k])
				}
				got, ok := f.run(b, c)
				if !ok || !isEqualCard(got, cardOf(3, 3, want...)) {
					t.Errorf("%s(%v, %v) = %v, %v", f.name, b, c, got, ok)
				}
				overwrite(got)
				if !slices.Equal(all, before) {
					t.Fatalf("%s(%v, %v) changed the memory of its cards or shares it", f.name, b, c)
				}
			}
		}
	}
}

func TestResultsOfBothCombinationsShareNoMemory(t *testing.T) {
	for n := 1; n <= maxStrips; n++ {
		b, c := mixedCard(2, 3, n), mixedCard(2, 3, n)
		slices.Reverse(c.Strips)
		for _, d := range []impl.Card{b, c} {
			upper, _ := impl.UpperCard(b, d)
			lower, _ := impl.LowerCard(b, d)
			before := slices.Clone(lower.Strips)
			overwrite(upper)
			if !slices.Equal(lower.Strips, before) {
				t.Fatalf("the upper and the lower card of %v and %v share memory", b, d)
			}
		}
	}
}

func TestCardsOfDifferentFramesAreRejected(t *testing.T) {
	for n := 1; n <= maxStrips; n += 3 {
		var cards []impl.Card
		for down := 1; down <= maxSteps; down++ {
			for forward := 1; forward <= maxSteps; forward++ {
				cards = append(cards, mixedCard(down, forward, n))
			}
		}
		for i, b := range cards {
			for _, c := range cards[:i] {
				checkNoCards(t, b, c)
			}
		}
	}
	// They differ in Down only, in Forward only, and in both with strips of the same length.
	checkNoCards(t, cardOf(2, 3, "ddfff"), cardOf(3, 3, "dddfff"))
	checkNoCards(t, cardOf(2, 3, "ddfff"), cardOf(2, 4, "ddffff"))
	checkNoCards(t, cardOf(2, 3, "ddfff"), cardOf(3, 2, "dddff"))
}

func TestCardsOfDifferentNumbersOfStripsAreRejected(t *testing.T) {
	for n := 1; n <= maxStrips; n++ {
		c := mixedCard(2, 3, n)
		for m := range maxStrips + 2 {
			if m != n {
				checkNoCards(t, c, mixedCard(2, 3, m))
			}
		}
		// The strip that is missing is there in the spare capacity.
		all := mixedCard(2, 3, n+1).Strips
		checkNoCards(t, cardOf(2, 3, all[:n]...), cardOf(2, 3, all...))
	}
}

func TestUpperAndLowerCardsOfInvalidCards(t *testing.T) {
	invalid := extremeInvalidCards()
	for _, b := range invalid {
		for _, c := range invalid {
			checkNoCards(t, b, c)
		}
		for _, c := range []impl.Card{cardOf(1, 1, "df"), cardOf(1, 1, "fd", "df"), cardOf(1, 2, "fdf"), impl.SampleCard(), mixedCard(1, 1, maxStrips)} {
			checkNoCards(t, b, c)
		}
	}
}

func TestUpperAndLowerCardsNeedEveryStripToBeValid(t *testing.T) {
	for _, c := range cardsWithOneWrongStrip() {
		checkNoCards(t, c, mixedCard(2, 2, len(c.Strips)))
		checkNoCards(t, c, c)
	}
}
