package tests

import (
	"math"
	"slices"
	"strings"
	"testing"

	"loop.example/g03305/impl"
)

// wantTurned returns the strip over the squares under s if both pages are exchanged: the height of each square becomes its distance from the fold, and the other way round.
func wantTurned(s string) string {
	under, turned := squaresUnder(s), uint64(0)
	for x := range maxSteps {
		for y := range maxSteps {
			turned |= under >> (maxSteps*x + y) & 1 << (maxSteps*y + x)
		}
	}
	return stripOver(strings.Count(s, "f"), strings.Count(s, "d"), turned)
}

// wantMirrored returns the strips from the last one to the first one.
func wantMirrored(strips []string) []string {
	mirrored := make([]string, len(strips))
	for k, s := range strips {
		mirrored[len(strips)-1-k] = s
	}
	return mirrored
}

// symmetricStrips returns n strips of a frame, the first half of which differ as far as there are enough of them.
func symmetricStrips(down int, forward int, n int) []string {
	strips := mixedCard(down, forward, n).Strips
	for k := range n / 2 {
		strips[n-1-k] = strips[k]
	}
	return strips
}

// smallCards returns all valid cards of small frames that have few strips.
func smallCards() []impl.Card {
	var cards []impl.Card
	for _, frame := range [][3]int{{1, 1, 6}, {1, 2, 4}, {2, 1, 4}, {2, 2, 3}, {2, 3, 2}, {3, 2, 2}, {3, 3, 2}, {1, 5, 2}, {5, 1, 2}, {maxSteps, 1, 2}, {1, maxSteps, 2}} {
		cards = append(cards, cardsOf(frame[0], frame[1], frame[2])...)
	}
	return cards
}

// cardsOutsideOfTheirFrames returns cards of all frames that have no strips, or strips of another frame.
func cardsOutsideOfTheirFrames() []impl.Card {
	var cards []impl.Card
	for _, frame := range allFrames() {
		down, forward := frame[0], frame[1]
		flat, high := impl.FlatStrip(down, forward), impl.HighStrip(down, forward)
		cards = append(cards, cardOf(down, forward), cardOf(-down, -forward, flat), cardOf(down, forward, flat, "", flat), cardOf(down, forward, high, flat+"f", high), cardOf(down+1, forward, high), cardOf(down, forward+1, high, high))
		if down != forward {
			otherFlat, otherHigh := impl.FlatStrip(forward, down), impl.HighStrip(forward, down)
			// These would be valid if some of their strips, or the frame, were turned.
			cards = append(cards, cardOf(forward, down, flat), cardOf(forward, down, high, flat, high), cardOf(down, forward, flat, otherFlat), cardOf(down, forward, otherHigh, high))
		}
	}
	return cards
}

// allInvalidCards returns these cards, the other invalid ones, and cards of too many strips.
func allInvalidCards() []impl.Card {
	cards := append(invalidCards(), cardsOutsideOfTheirFrames()...)
	for n := maxStrips + 1; n <= maxStrips+3; n++ {
		cards = append(cards, cardOf(1, 1, slices.Repeat([]string{"df"}, n)...), cardOf(2, 3, symmetricStrips(2, 3, n)...), mixedCard(2, 3, n))
	}
	return cards
}

// differences counts the steps in which two strips of one length differ.
func differences(s string, u string) int {
	count := 0
	for k := range len(s) {
		if s[k] != u[k] {
			count++
		}
	}
	return count
}

// checkTurnIs expects this turned strip, and that s is balanced or not.
func checkTurnIs(t *testing.T, s string, turned string, balanced bool) {
	t.Helper()
	if got := impl.TurnStrip(s); got != turned {
		t.Errorf("TurnStrip(%.40q) = %.40q, want %q", s, got, turned)
	}
	if got := impl.IsBalanced(s); got != balanced {
		t.Errorf("IsBalanced(%.40q) = %v", s, got)
	}
}

// checkTurn compares a turned strip with the squares under it, and turns it once more.
func checkTurn(t *testing.T, s string) {
	t.Helper()
	turned := wantTurned(s)
	checkTurnIs(t, s, turned, turned == s)
	checkTurnIs(t, turned, s, turned == s)
	checkStrip(t, impl.TurnStrip(s), strings.Count(s, "f"), strings.Count(s, "d"))
	checkRoomIs(t, impl.TurnStrip(s), impl.RoomUnder(s))
}

// checkTwoStrips expects that each of two different strips is the turned one of the other.
func checkTwoStrips(t *testing.T, s string, u string) {
	t.Helper()
	checkTurnIs(t, s, u, false)
	checkTurnIs(t, u, s, false)
}

func checkNoTurn(t *testing.T, s string) {
	t.Helper()
	checkTurnIs(t, s, "", false)
}

func checkBalancedCount(t *testing.T, n int, want int) {
	t.Helper()
	if got := impl.CountBalanced(n); got != want {
		t.Errorf("CountBalanced(%d) = %d, want %d", n, got, want)
	}
}

// side is a function of the chapter that makes a card of another one.
type side struct {
	name string
	run  func(c impl.Card) impl.Card
}

func sides() []side {
	return []side{{"TurnCard", impl.TurnCard}, {"MirrorCard", impl.MirrorCard}, {"SymmetrizeCard", impl.SymmetrizeCard}}
}

// checkSide expects this card from a function, in memory of its own.
func checkSide(t *testing.T, f side, c impl.Card, want impl.Card) {
	t.Helper()
	// The cards of the first round are overwritten, which the second one must not see.
	for range 2 {
		checkLeft(t, c, func(c impl.Card) {
			got, again := f.run(c), f.run(c)
			if !isEqualCard(got, want) || !isEqualCard(again, want) {
				t.Errorf("%s(%s) = %s and %s, want %s", f.name, shortText(c), shortText(got), shortText(again), shortText(want))
			}
			checkApart(t, c.Strips, got.Strips, again.Strips)
			overwrite(got)
			overwrite(again)
		})
	}
}

func checkSymmetric(t *testing.T, c impl.Card, want bool) {
	t.Helper()
	checkLeft(t, c, func(c impl.Card) {
		if got := impl.IsSymmetric(c); got != want {
			t.Errorf("IsSymmetric(%s) = %v", shortText(c), got)
		}
	})
}

// checkSidesAre expects these strips of the turned, the mirrored and the symmetrized card of a valid card.
func checkSidesAre(t *testing.T, c impl.Card, turned []string, mirrored []string, symmetrized []string) {
	t.Helper()
	cards := []impl.Card{cardOf(c.Forward, c.Down, turned...), cardOf(c.Down, c.Forward, mirrored...), cardOf(c.Down, c.Forward, symmetrized...)}
	for i, f := range sides() {
		checkSide(t, f, c, cards[i])
	}
	checkSymmetric(t, c, slices.Equal(c.Strips, mirrored))
	checkPromisedSides(t, c)
}

// checkSides compares all sides of a valid card with the squares under its strips.
func checkSides(t *testing.T, c impl.Card) {
	t.Helper()
	var turned, symmetrized []string
	mirrored := wantMirrored(c.Strips)
	for k, s := range c.Strips {
		turned = append(turned, wantTurned(s))
		symmetrized = append(symmetrized, wantUpper(s, mirrored[k]))
	}
	checkSidesAre(t, c, turned, mirrored, symmetrized)
}

// checkPromisedSides turns and mirrors a card twice, and expects the same card and the same room.
func checkPromisedSides(t *testing.T, c impl.Card) {
	t.Helper()
	turned, mirrored, symmetrized := impl.TurnCard(c), impl.MirrorCard(c), impl.SymmetrizeCard(c)
	if !isEqualCard(impl.TurnCard(turned), c) {
		t.Errorf("%v turned twice is %v", c, impl.TurnCard(turned))
	}
	if !isEqualCard(impl.MirrorCard(mirrored), c) {
		t.Errorf("%v mirrored twice is %v", c, impl.MirrorCard(mirrored))
	}
	if !isEqualCard(impl.TurnCard(mirrored), impl.MirrorCard(turned)) {
		t.Errorf("%v turned and mirrored is %v, mirrored and turned %v", c, impl.MirrorCard(turned), impl.TurnCard(mirrored))
	}
	checkSquares(t, c)
	checkVolume(t, turned, impl.VolumeOf(c))
	checkVolume(t, mirrored, impl.VolumeOf(c))
	for _, made := range []impl.Card{turned, mirrored, symmetrized} {
		checkCardOk(t, made, true)
	}
	checkSymmetric(t, symmetrized, true)
	if !isEqualCard(impl.SymmetrizeCard(symmetrized), symmetrized) || isEqualCard(symmetrized, c) != impl.IsSymmetric(c) {
		t.Errorf("the symmetrized card of %v is %v, and that of this one %v", c, symmetrized, impl.SymmetrizeCard(symmetrized))
	}
	if !isEqualCard(impl.SymmetrizeCard(mirrored), symmetrized) || !isEqualCard(impl.SymmetrizeCard(turned), impl.TurnCard(symmetrized)) {
		t.Errorf("the symmetrized card of %v is %v, but %v from the back and %v if it is turned", c, symmetrized, impl.SymmetrizeCard(mirrored), impl.SymmetrizeCard(turned))
	}
	for k, s := range c.Strips {
		checkIsAbove(t, symmetrized.Strips[k], s, true)
		checkIsAbove(t, symmetrized.Strips[k], mirrored.Strips[k], true)
	}
}

// checkSymmetricSides expects that a valid card is symmetric.
func checkSymmetricSides(t *testing.T, c impl.Card) {
	t.Helper()
	checkSymmetric(t, c, true)
	checkSide(t, side{"MirrorCard", impl.MirrorCard}, c, c)
	checkSide(t, side{"SymmetrizeCard", impl.SymmetrizeCard}, c, c)
	checkSides(t, c)
}

// checkNotSymmetric expects that a valid card is not symmetric.
func checkNotSymmetric(t *testing.T, c impl.Card) {
	t.Helper()
	checkSymmetric(t, c, false)
	checkSides(t, c)
}

// checkNoSides expects that every function of the chapter rejects a card that is not valid.
func checkNoSides(t *testing.T, c impl.Card) {
	t.Helper()
	for _, f := range sides() {
		checkSide(t, f, c, impl.Card{})
	}
	checkSymmetric(t, c, false)
}

func TestTurnedStripsOfAllShortWords(t *testing.T) {
	checkWords(t, 10, checkTurn, checkNoTurn)
}

func TestTurnedStripsOfEveryFrame(t *testing.T) {
	for _, frame := range allFrames() {
		down, forward := frame[0], frame[1]
		isSquare := down == forward
		checkTurnIs(t, impl.FlatStrip(down, forward), impl.FlatStrip(forward, down), isSquare)
		checkTurnIs(t, impl.HighStrip(down, forward), impl.HighStrip(forward, down), isSquare)
		for _, s := range stripsOf(down, forward) {
			checkTurn(t, s)
			if !isSquare && impl.IsBalanced(s) {
				t.Errorf("%q of %d steps down and %d forward is balanced", s, down, forward)
			}
		}
	}
}

func TestSomeTurnedStrips(t *testing.T) {
	// With as many steps of both kinds.
	checkTurnIs(t, "df", "df", true)
	checkTurnIs(t, "fd", "fd", true)
	checkTurnIs(t, "ddff", "ddff", true)
	checkTurnIs(t, "dfdf", "dfdf", true)
	checkTurnIs(t, "fdfd", "fdfd", true)
	checkTurnIs(t, "ffdd", "ffdd", true)
	checkTwoStrips(t, "fddf", "dffd")
	checkTwoStrips(t, "ddffdf", "dfddff")
	checkTwoStrips(t, "fdddff", "ddfffd")
	checkTwoStrips(t, "dfffdd", "ffdddf")
	checkTurnIs(t, "dffddf", "dffddf", true)
	checkTurnIs(t, "fddffd", "fddffd", true)
	checkTurnIs(t, strings.Repeat("df", maxSteps), strings.Repeat("df", maxSteps), true)
	checkTurnIs(t, strings.Repeat("fd", maxSteps), strings.Repeat("fd", maxSteps), true)
	checkTwoStrips(t, strings.Repeat("dffd", maxSteps/2), strings.Repeat("fddf", maxSteps/2))
	// With more steps of one kind.
	checkTwoStrips(t, "ddf", "dff")
	checkTwoStrips(t, "fdd", "ffd")
	checkTwoStrips(t, "dfd", "fdf")
	checkTwoStrips(t, "dfdff", "ddfdf")
	checkTwoStrips(t, "dfffd", "fdddf")
	checkTwoStrips(t, "fdfffd", "fdddfd")
	checkTwoStrips(t, "dfdffdf", "dfddfdf")
	checkTwoStrips(t, "ffddffd", "fddffdd")
	checkTwoStrips(t, "ddddddddf", "dffffffff")
	checkTwoStrips(t, "fdddddddd", "ffffffffd")
	checkTwoStrips(t, "dddfddddd", "fffffdfff")
	checkTwoStrips(t, "dffffffffdddddd", "ffffffddddddddf")
}

func TestOtherTextsAreNotTurned(t *testing.T) {
	for _, s := range otherTexts() {
		checkNoTurn(t, s)
	}
	// Some of these would be balanced if other letters, or more of them, were allowed.
	for _, s := range []string{"\xff", "dxf", "xdfx", "d f", " df ", "fxd", "dfé", "d\u0164f", "ffdd\n", strings.Repeat("df", maxSteps+1), strings.Repeat("d", maxSteps+1) + strings.Repeat("f", maxSteps+1)} {
		checkNoTurn(t, s)
	}
	for n := 1; n <= maxSteps+1; n++ {
		checkNoTurn(t, strings.Repeat("d", n))
		checkNoTurn(t, strings.Repeat("f", n))
		checkNoTurn(t, strings.Repeat("d", maxSteps+n)+"f")
		checkNoTurn(t, strings.Repeat("f", maxSteps+n)+"d")
	}
}

func TestStripsDifferFromTheirTurnedOnesInFourStepsOrMore(t *testing.T) {
	for n := 1; n <= maxSteps; n++ {
		for _, s := range stripsOf(n, n) {
			count := differences(s, impl.TurnStrip(s))
			if count%4 != 0 || impl.IsBalanced(s) != (count == 0) {
				t.Errorf("%q differs from the turned strip %q in %d steps; it is balanced: %v", s, impl.TurnStrip(s), count, impl.IsBalanced(s))
			}
		}
	}
}

// balancedStrips returns the strips of a square frame that are made of any n letters, followed by those that make them balanced.
func balancedStrips(n int) []string {
	var strips []string
	exchange := strings.NewReplacer("d", "f", "f", "d")
	for _, half := range allWords(n) {
		if len(half) == n {
			letters := strings.Split(exchange.Replace(half), "")
			strips = append(strips, half+strings.Join(wantMirrored(letters), ""))
		}
	}
	return strips
}

func TestBalancedStrips(t *testing.T) {
	for n := 1; n <= maxSteps; n++ {
		for _, s := range balancedStrips(n) {
			checkTurnIs(t, s, s, true)
			checkStrip(t, s, n, n)
		}
	}
}

func TestStripsThatAreNearlyBalanced(t *testing.T) {
	for n := 2; n <= maxSteps; n++ {
		for _, s := range balancedStrips(n) {
			for i := range n {
				for j := range i {
					if s[i] == s[j] {
						continue
					}
					// Two letters at each of these two distances from the ends are the same, and all others are as they were.
					letters := []byte(s)
					letters[len(s)-1-i], letters[len(s)-1-j] = s[i], s[j]
					nearly := string(letters)
					checkTurnIs(t, nearly, wantTurned(nearly), false)
					if count := differences(nearly, impl.TurnStrip(nearly)); count != 4 {
						t.Errorf("%q differs from the turned strip %q in %d steps", nearly, impl.TurnStrip(nearly), count)
					}
				}
			}
		}
	}
}

func TestNumbersOfBalancedStrips(t *testing.T) {
	for i, want := range []int{2, 4, 8, 16, 32, 64, 128, 256} {
		n, balanced, same := i+1, 0, 0
		for _, s := range stripsOf(n, n) {
			if impl.IsBalanced(s) {
				balanced++
			}
			if wantTurned(s) == s {
				same++
			}
		}
		checkBalancedCount(t, n, want)
		checkBalancedCount(t, n, balanced)
		checkBalancedCount(t, n, same)
	}
}

func TestNumbersOutsideOfTheRangeHaveNoBalancedStrips(t *testing.T) {
	for n := -300; n <= 300; n++ {
		if n < 1 || n > maxSteps {
			checkBalancedCount(t, n, 0)
		}
	}
	for _, n := range slices.Concat(greatNumbers, []int{math.MinInt + 2, math.MinInt + maxSteps, 1<<16 + 1, 1<<32 + maxSteps, -1<<32 + maxSteps}) {
		checkBalancedCount(t, n, 0)
	}
}

func TestSidesOfAllSmallCards(t *testing.T) {
	for _, c := range smallCards() {
		checkSides(t, c)
	}
}

func TestSidesOfEveryFrameAndNumberOfStrips(t *testing.T) {
	for _, frame := range allFrames() {
		for n := 1; n <= maxStrips; n++ {
			checkSides(t, mixedCard(frame[0], frame[1], n))
			checkSymmetricSides(t, cardOf(frame[0], frame[1], symmetricStrips(frame[0], frame[1], n)...))
		}
	}
}

func TestSidesOfCardsOfOneStrip(t *testing.T) {
	for _, frame := range [][2]int{{1, 1}, {2, 2}, {3, 5}, {5, 3}, {maxSteps, 1}, {1, maxSteps}, {4, 4}} {
		for _, s := range stripsOf(frame[0], frame[1]) {
			checkSymmetricSides(t, cardOf(frame[0], frame[1], s))
		}
	}
	for _, s := range someStrips(maxSteps, maxSteps, 37) {
		checkSymmetricSides(t, cardOf(maxSteps, maxSteps, s))
	}
}

func TestSidesOfPlainAndHighCards(t *testing.T) {
	for i, frame := range allFrames() {
		down, forward, n := frame[0], frame[1], 1+i%maxStrips
		for _, stripOf := range []func(down int, forward int) string{impl.FlatStrip, impl.HighStrip} {
			strips := slices.Repeat([]string{stripOf(down, forward)}, n)
			c := cardOf(down, forward, strips...)
			checkSidesAre(t, c, slices.Repeat([]string{stripOf(forward, down)}, n), strips, strips)
			checkSymmetricSides(t, c)
		}
	}
}

func TestSidesOfSomeCards(t *testing.T) {
	checkSidesAre(t, cardOf(2, 2, "ddff", "dfdf", "dfdf"), []string{"ddff", "dfdf", "dfdf"}, []string{"dfdf", "dfdf", "ddff"}, []string{"dfdf", "dfdf", "dfdf"})
	checkSidesAre(t, cardOf(1, 2, "fdf"), []string{"dfd"}, []string{"fdf"}, []string{"fdf"})
	checkSidesAre(t, cardOf(2, 1, "dfd", "ddf"), []string{"fdf", "dff"}, []string{"ddf", "dfd"}, []string{"dfd", "dfd"})
	checkSidesAre(t, cardOf(2, 3, "dfdff", "ffdfd", "dfffd", "ddfff"), []string{"ddfdf", "fdfdd", "fdddf", "dddff"}, []string{"ddfff", "dfffd", "ffdfd", "dfdff"}, []string{"dfdff", "ffdfd", "ffdfd", "dfdff"})
	checkSidesAre(t, cardOf(maxSteps, 1, "dddfddddd", "ddddddddf"), []string{"fffffdfff", "dffffffff"}, []string{"ddddddddf", "dddfddddd"}, []string{"dddfddddd", "dddfddddd"})
	checkSidesAre(t, cardOf(1, maxSteps, "fffdfffff", "ffffdffff", "dffffffff"), []string{"dddddfddd", "ddddfdddd", "ddddddddf"}, []string{"dffffffff", "ffffdffff", "fffdfffff"}, []string{"fffdfffff", "ffffdffff", "fffdfffff"})
	checkSidesAre(t, impl.SampleCard(), []string{"ddddfff", "dfddfdf", "dfddfdf", "fddffdd", "ddddfff"}, []string{"dddffff", "ffddffd", "dfdffdf", "dfdffdf", "dddffff"}, []string{"dddffff", "ffddffd", "dfdffdf", "ffddffd", "dddffff"})
	for _, c := range []impl.Card{cardOf(2, 2, "fddf", "ffdd"), cardOf(2, 3, "dfdff", "ffdfd", "dfffd", "ddfff"), impl.SampleCard()} {
		checkNotSymmetric(t, c)
	}
}

func TestSymmetricCards(t *testing.T) {
	checkSymmetricSides(t, cardOf(1, 1, "df"))
	checkSymmetricSides(t, cardOf(1, 1, "fd", "fd"))
	checkSymmetricSides(t, cardOf(2, 2, "fddf", "ddff", "fddf"))
	checkSymmetricSides(t, cardOf(2, 3, "fddff", "ddfff", "ddfff", "fddff"))
	checkSymmetricSides(t, cardOf(3, 2, "fddfd", "dddff", "ffddd", "dddff", "fddfd"))
	// These read the same from both sides only if the strips are turned, too, or as one text.
	checkNotSymmetric(t, cardOf(2, 2, "fddf", "dffd"))
	checkNotSymmetric(t, cardOf(1, 1, "df", "fd"))
	checkNotSymmetric(t, cardOf(2, 2, "fddf", "ddff", "dffd"))
	checkNotSymmetric(t, cardOf(2, 1, "ddf", "fdd"))
	// The ends are the same, or the strips are those of the other half in another order.
	checkNotSymmetric(t, cardOf(2, 2, "ddff", "dfdf", "ffdd", "ddff"))
	checkNotSymmetric(t, cardOf(2, 2, "ddff", "dfdf", "ddff", "dfdf"))
	checkNotSymmetric(t, cardOf(2, 2, "ddff", "dfdf", "ffdd", "ddff", "dfdf"))
}

func TestCardsInWhichOnePairOfStripsDiffers(t *testing.T) {
	for _, frame := range [][2]int{{2, 2}, {2, 3}, {3, 2}, {1, maxSteps}, {maxSteps, 1}, {maxSteps, maxSteps}} {
		flat, high := impl.FlatStrip(frame[0], frame[1]), impl.HighStrip(frame[0], frame[1])
		for n := 1; n <= maxStrips; n++ {
			for _, strips := range [][]string{slices.Repeat([]string{flat}, n), slices.Repeat([]string{high}, n), symmetricStrips(frame[0], frame[1], n)} {
				for k := range n {
					raised, _ := impl.RaiseAt(strips[k], slices.Max(append(impl.RaisesOf(strips[k]), 0)))
					for _, s := range []string{raised, flat, high} {
						changed := slices.Clone(strips)
						changed[k] = s
						c := cardOf(frame[0], frame[1], changed...)
						// The strip in the middle of the card has no other one that it would have to be equal to.
						checkSymmetric(t, c, s == strips[k] || 2*k == n-1)
						checkSides(t, c)
					}
				}
			}
		}
	}
}

func TestCardsThatAreSymmetrized(t *testing.T) {
	for _, one := range []struct {
		c    impl.Card
		want []string
	}{
		// Strips that cross their mirrored ones.
		{cardOf(2, 2, "fddf", "dffd"), []string{"fdfd", "fdfd"}},
		{cardOf(2, 2, "fddf", "ddff", "dffd"), []string{"fdfd", "ddff", "fdfd"}},
		{cardOf(2, 3, "fddff", "dfffd"), []string{"fdffd", "fdffd"}},
		{cardOf(3, 2, "ddffd", "fdddf", "fdddf", "dfddf"), []string{"dfdfd", "fdddf", "fdddf", "dfdfd"}},
		{cardOf(4, 4, "fddffddf", "dffddffd"), []string{"fdfdfdfd", "fdfdfdfd"}},
		{cardOf(maxSteps, maxSteps, strings.Repeat("fddf", 4), strings.Repeat("dffd", 4)), slices.Repeat([]string{strings.Repeat("fd", maxSteps)}, 2)},
		// Strips above their mirrored ones in one half, in the other half or by turns.
		{cardOf(2, 2, "ffdd", "dfdf", "ddff", "ddff"), []string{"ffdd", "dfdf", "dfdf", "ffdd"}},
		{cardOf(2, 2, "ddff", "ddff", "dfdf", "ffdd"), []string{"ffdd", "dfdf", "dfdf", "ffdd"}},
		{cardOf(2, 2, "ffdd", "ddff", "dfdf", "ddff"), []string{"ffdd", "dfdf", "dfdf", "ffdd"}},
		{cardOf(3, 1, "fddd", "dddf", "dfdd", "ddfd", "dddf"), []string{"fddd", "ddfd", "dfdd", "ddfd", "fddd"}},
		// Above in one pair, crossing in the next one, equal in the last one.
		{cardOf(2, 2, "ddff", "fddf", "dfdf", "dfdf", "dffd", "dfdf"), []string{"dfdf", "fdfd", "dfdf", "dfdf", "fdfd", "dfdf"}},
		// Symmetric cards.
		{cardOf(2, 2, "ddff", "dfdf", "ddff"), []string{"ddff", "dfdf", "ddff"}},
		{cardOf(1, 3, "fdff", "fffd", "fffd", "fdff"), []string{"fdff", "fffd", "fffd", "fdff"}},
	} {
		checkSide(t, side{"SymmetrizeCard", impl.SymmetrizeCard}, one.c, cardOf(one.c.Down, one.c.Forward, one.want...))
		checkSides(t, one.c)
		checkSymmetricSides(t, impl.SymmetrizeCard(one.c))
	}
}

func TestCardsOfStripsAndTheirTurnedOnes(t *testing.T) {
	for n := 1; n <= 4; n++ {
		for _, s := range stripsOf(n, n) {
			c := cardOf(n, n, s, impl.TurnStrip(s))
			checkSymmetric(t, c, impl.IsBalanced(s))
			checkSide(t, side{"TurnCard", impl.TurnCard}, c, impl.MirrorCard(c))
			checkSides(t, c)
		}
	}
}

func TestSidesOfInvalidCards(t *testing.T) {
	for _, c := range allInvalidCards() {
		checkNoSides(t, c)
	}
}

func TestCardsFromOtherSidesShareNoMemory(t *testing.T) {
	cards := append(cardsOf(2, 2, 2), mixedCard(3, 5, maxStrips), mixedCard(maxSteps, maxSteps, maxStrips), cardOf(2, 3, symmetricStrips(2, 3, 7)...), impl.SampleCard(), impl.Card{})
	var lists [][]string
	for _, c := range cards {
		given, _ := withSpare(c)
		lists = append(lists, given.Strips)
		for _, f := range slices.Concat(sides(), sides()) {
			lists = append(lists, f.run(given).Strips)
		}
	}
	checkApart(t, lists...)
	for _, list := range lists {
		overwrite(impl.Card{Strips: list})
	}
	for _, c := range cards {
		if impl.CardOk(c) {
			checkSides(t, c)
		} else {
			checkNoSides(t, c)
		}
	}
}
