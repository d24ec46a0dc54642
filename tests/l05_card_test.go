package tests

import (
	"math"
	"slices"
	"strings"
	"testing"

	"loop.example/g03305/impl"
)

const maxStrips = 10

// edit is a function that changes a card, with its other arguments.
type edit struct {
	name string
	args []any
	run  func(c impl.Card) (impl.Card, bool)
}

func withEdit(k int, s string) edit {
	return edit{"WithStrip", []any{k, s}, func(c impl.Card) (impl.Card, bool) { return impl.WithStrip(c, k, s) }}
}

func putEdit(k int, s string) edit {
	return edit{"PutStrip", []any{k, s}, func(c impl.Card) (impl.Card, bool) { return impl.PutStrip(c, k, s) }}
}

func cutEdit(k int) edit {
	return edit{"CutStrip", []any{k}, func(c impl.Card) (impl.Card, bool) { return impl.CutStrip(c, k) }}
}

func cardOf(down int, forward int, strips ...string) impl.Card {
	return impl.Card{Down: down, Forward: forward, Strips: strips}
}

// isGoodCard tells from the letters whether a card is valid.
func isGoodCard(c impl.Card) bool {
	good := c.Down >= 1 && c.Down <= maxSteps && c.Forward >= 1 && c.Forward <= maxSteps && len(c.Strips) >= 1 && len(c.Strips) <= maxStrips
	for _, s := range c.Strips {
		good = good && strings.Count(s, "d") == c.Down && strings.Count(s, "f") == c.Forward && len(s) == c.Down+c.Forward
	}
	return good
}

func isEqualCard(b impl.Card, c impl.Card) bool {
	return b.Down == c.Down && b.Forward == c.Forward && slices.Equal(b.Strips, c.Strips)
}

// withSpare returns an equal card with more strips in the memory behind its own ones, and all these strips.
func withSpare(c impl.Card) (impl.Card, []string) {
	all := slices.Concat(c.Strips, []string{"spare", "fd", "df"})
	c.Strips = all[:len(c.Strips)]
	return c, all
}

// overwrite writes to all memory of the strips of a card.
func overwrite(c impl.Card) {
	all := c.Strips[:cap(c.Strips)]
	for i := range all {
		all[i] = "overwritten"
	}
}

// checkEdit expects that an edit leads to these strips, or is rejected if there are none, and that it leaves its argument alone.
func checkEdit(t *testing.T, e edit, c impl.Card, strips []string) {
	t.Helper()
	given, all := withSpare(c)
	before := slices.Clone(all)
	want := c
	if strips != nil {
		want.Strips = strips
	}
	// The result of the first round is overwritten, which the second one must not see.
	for range 2 {
		got, ok := e.run(given)
		if ok != (strips != nil) || !isEqualCard(got, want) {
			t.Errorf("%s(%.80v, %.40v) = %.80v, %v, want %.80v, %v", e.name, c, e.args, got, ok, want, strips != nil)
		}
		if !slices.Equal(all, before) {
			t.Errorf("%s(%.80v, %.40v) changed its card or the memory behind it to %.80q", e.name, c, e.args, all)
		}
		overwrite(got)
		if !slices.Equal(all, before) {
			t.Errorf("%s(%.80v, %.40v) shares memory with its card", e.name, c, e.args)
		}
	}
}

// goodOrNone returns the strips if both the card and the one with these strips are valid.
func goodOrNone(c impl.Card, strips []string) []string {
	if !isGoodCard(c) || !isGoodCard(cardOf(c.Down, c.Forward, strips...)) {
		return nil
	}
	return strips
}

// checkEdits checks the three edits of a card at an index.
func checkEdits(t *testing.T, c impl.Card, k int, s string) {
	t.Helper()
	var with, put, cut []string
	if k >= 0 && k <= len(c.Strips) {
		put = slices.Concat(c.Strips[:k], []string{s}, c.Strips[k:])
	}
	if k >= 0 && k < len(c.Strips) {
		with = slices.Concat(c.Strips[:k], []string{s}, c.Strips[k+1:])
		cut = slices.Concat(c.Strips[:k], c.Strips[k+1:])
	}
	checkEdit(t, withEdit(k, s), c, goodOrNone(c, with))
	checkEdit(t, putEdit(k, s), c, goodOrNone(c, put))
	checkEdit(t, cutEdit(k), c, goodOrNone(c, cut))
}

// checkNoEdits expects that the three edits are rejected.
func checkNoEdits(t *testing.T, c impl.Card, k int, s string) {
	t.Helper()
	checkEdit(t, withEdit(k, s), c, nil)
	checkEdit(t, putEdit(k, s), c, nil)
	checkEdit(t, cutEdit(k), c, nil)
}

// checkCardOk expects this result of CardOk, and that it leaves its argument alone.
func checkCardOk(t *testing.T, c impl.Card, want bool) {
	t.Helper()
	given, all := withSpare(c)
	before := slices.Clone(all)
	if got := impl.CardOk(given); got != want {
		t.Errorf("CardOk(%.80v) = %v", c, got)
	}
	if !slices.Equal(all, before) {
		t.Errorf("CardOk(%.80v) changed its card or the memory behind it to %.80q", c, all)
	}
}

// checkSame expects this result of SameCard in both orders, and that it leaves its arguments alone.
func checkSame(t *testing.T, b impl.Card, c impl.Card, want bool) {
	t.Helper()
	first, allFirst := withSpare(b)
	second, allSecond := withSpare(c)
	beforeFirst, beforeSecond := slices.Clone(allFirst), slices.Clone(allSecond)
	if impl.SameCard(first, second) != want || impl.SameCard(second, first) != want {
		t.Errorf("SameCard(%.80v, %.80v) = %v, and in the other order %v, want %v", b, c, impl.SameCard(first, second), impl.SameCard(second, first), want)
	}
	if !slices.Equal(allFirst, beforeFirst) || !slices.Equal(allSecond, beforeSecond) {
		t.Errorf("SameCard(%.80v, %.80v) changed its cards or the memory behind them", b, c)
	}
}

// checkNoCard expects that every function of the chapter rejects a card, also where the result would be valid.
func checkNoCard(t *testing.T, c impl.Card) {
	t.Helper()
	checkCardOk(t, c, false)
	checkSame(t, c, c, true)
	n := len(c.Strips)
	for _, k := range []int{math.MinInt, -1, 0, 1, n / 2, n - 1, n, n + 1, math.MaxInt} {
		for _, s := range []string{"", "x", "df", impl.FlatStrip(c.Down, c.Forward), impl.HighStrip(c.Down, c.Forward)} {
			checkNoEdits(t, c, k, s)
		}
	}
}

func checkPlain(t *testing.T, down int, forward int, n int) {
	t.Helper()
	want := impl.Card{}
	isFrame := down >= 1 && down <= maxSteps && forward >= 1 && forward <= maxSteps
	if isFrame && n >= 1 && n <= maxStrips {
		flat := strings.Repeat("d", down) + strings.Repeat("f", forward)
		want = cardOf(down, forward, slices.Repeat([]string{flat}, n)...)
	}
	if got, ok := impl.PlainCard(down, forward, n); ok != (want.Down > 0) || !isEqualCard(got, want) {
		t.Errorf("PlainCard(%d, %d, %d) = %v, %v, want %v", down, forward, n, got, ok, want)
	}
}

// listsOf returns all lists of up to n of the elements.
func listsOf[E any](elements []E, n int) [][]E {
	lists := [][]E{nil}
	for i := 0; len(lists[i]) < n; i++ {
		for _, e := range elements {
			lists = append(lists, append(slices.Clone(lists[i]), e))
		}
	}
	return lists
}

// mixedCard returns a valid card of n strips, which differ as far as there are enough of them.
func mixedCard(down int, forward int, n int) impl.Card {
	strips := stripsOf(down, forward)
	c := impl.Card{Down: down, Forward: forward}
	for i := range n {
		c.Strips = append(c.Strips, strips[i*7%len(strips)])
	}
	return c
}

// smallInvalidCards returns the cards of up to three short texts and of frames up to 2 that are not valid.
func smallInvalidCards() []impl.Card {
	var cards []impl.Card
	for _, strips := range listsOf([]string{"", "d", "df", "fd", "dff"}, 3) {
		for down := range 3 {
			for forward := range 3 {
				if c := cardOf(down, forward, strips...); !isGoodCard(c) {
					cards = append(cards, c)
				}
			}
		}
	}
	return cards
}

// extremeInvalidCards returns cards that are just outside of a limit or far outside.
func extremeInvalidCards() []impl.Card {
	d, f := strings.Repeat("d", maxSteps), strings.Repeat("f", maxSteps)
	cards := []impl.Card{
		{}, {Down: 1, Forward: 1}, {Strips: []string{"df"}}, {Strips: []string{"df", "fd"}}, {Down: 1, Strips: []string{"d"}}, {Forward: 1, Strips: []string{"f"}}, {Strips: []string{""}},
		cardOf(maxSteps+1, 1, d+"df"), cardOf(1, maxSteps+1, "d"+f+"f"), cardOf(maxSteps+1, maxSteps, d+f), cardOf(maxSteps, maxSteps, d+f+"f"), cardOf(0, maxSteps, f), cardOf(maxSteps, 0, d),
		cardOf(-1, -1, ""), cardOf(-1, -1, "df"), cardOf(2, 1, "dff"), cardOf(2, 1, "dff", "dff"), cardOf(1, 1, "df", "ddf"), cardOf(1, 1, "", "df"),
		mixedCard(2, 2, maxStrips+1), cardOf(1, 1, strings.Repeat("df", 100000)), cardOf(1, 1, slices.Repeat([]string{"df"}, 10000)...),
	}
	for _, n := range append([]int{math.MinInt + 2}, greatNumbers...) {
		cards = append(cards, cardOf(n, 1, "df", "fd"), cardOf(1, n, "df", "fd"), cardOf(n, n, "df", "fd"))
	}
	return cards
}

// cardsWithOneWrongStrip returns cards of every number of strips that are valid but for the strip at one index.
func cardsWithOneWrongStrip() []impl.Card {
	var cards []impl.Card
	for n := 1; n <= maxStrips; n++ {
		for k := range n {
			for _, s := range []string{"", "df", "dff", "fdd", "dfdff", "fdfdf", "dddf", "DFDF", "dfdx", "dfd ", "dfé", "\u0164fdf"} {
				c := mixedCard(2, 2, n)
				c.Strips[k] = s
				cards = append(cards, c)
			}
		}
	}
	return cards
}

// invalidCards returns all of these cards.
func invalidCards() []impl.Card {
	return slices.Concat(smallInvalidCards(), extremeInvalidCards(), cardsWithOneWrongStrip())
}

func TestCardLimit(t *testing.T) {
	if impl.MaxStrips != maxStrips {
		t.Errorf("MaxStrips = %d", impl.MaxStrips)
	}
}

func TestCardOkOfAllSmallCards(t *testing.T) {
	for _, strips := range listsOf(allWords(4), 2) {
		for down := -1; down <= 3; down++ {
			for forward := -1; forward <= 3; forward++ {
				c := cardOf(down, forward, strips...)
				checkCardOk(t, c, isGoodCard(c))
			}
		}
	}
}

func TestCardOkOfEveryFrame(t *testing.T) {
	for down := 1; down <= maxSteps; down++ {
		for forward := 1; forward <= maxSteps; forward++ {
			flat, high := impl.FlatStrip(down, forward), impl.HighStrip(down, forward)
			checkCardOk(t, cardOf(down, forward, flat), true)
			checkCardOk(t, cardOf(down, forward, high, flat, high), true)
			checkCardOk(t, cardOf(forward, down, high, flat), down == forward)
			for _, other := range [][2]int{{down - 1, forward}, {down + 1, forward}, {down, forward - 1}, {down, forward + 1}, {0, forward}, {down, 0}, {-down, forward}, {down, -forward}, {down + 256, forward}, {down, forward + 1<<32}, {forward + 1, down + 1}} {
				c := cardOf(other[0], other[1], flat, high)
				checkCardOk(t, c, isGoodCard(c))
			}
		}
	}
}

func TestCardOkAtTheEndsOfTheFrame(t *testing.T) {
	d, f := strings.Repeat("d", maxSteps), strings.Repeat("f", maxSteps)
	for _, c := range []impl.Card{cardOf(1, 1, "df"), cardOf(1, 1, "fd"), cardOf(1, maxSteps, "d"+f), cardOf(maxSteps, 1, "f"+d), cardOf(maxSteps, maxSteps, d+f), cardOf(maxSteps, maxSteps, strings.Repeat("fd", maxSteps), f+d)} {
		checkCardOk(t, c, true)
	}
	for _, c := range []impl.Card{
		cardOf(0, 1, "f"), cardOf(1, 0, "d"), cardOf(0, 0, ""), cardOf(0, 0, "x"), cardOf(0, 0, "ff"), cardOf(0, 0), cardOf(0, 1, "df"), cardOf(1, 0, "df"), cardOf(-1, -1, "df"), cardOf(-1, -1, ""),
		cardOf(maxSteps+1, 1, d+"df"), cardOf(1, maxSteps+1, "d"+f+"f"), cardOf(maxSteps+1, maxSteps+1, d+f+"df"), cardOf(0, maxSteps, f), cardOf(maxSteps, 0, d),
		cardOf(maxSteps+1, maxSteps, d+f), cardOf(maxSteps, maxSteps+1, d+f), cardOf(maxSteps, maxSteps, d+f+"f"), cardOf(maxSteps, maxSteps, "d"+d+f),
	} {
		checkNoCard(t, c)
	}
}

func TestCardOkCountsStrips(t *testing.T) {
	for _, frame := range [][2]int{{1, 1}, {2, 3}, {maxSteps, 1}, {1, maxSteps}, {4, 4}} {
		for n := range maxStrips + 4 {
			c := mixedCard(frame[0], frame[1], n)
			checkCardOk(t, c, n >= 1 && n <= maxStrips)
		}
		checkNoCard(t, mixedCard(frame[0], frame[1], 0))
		checkNoCard(t, impl.Card{Down: frame[0], Forward: frame[1], Strips: []string{}})
		checkNoCard(t, mixedCard(frame[0], frame[1], maxStrips+1))
		checkNoCard(t, mixedCard(frame[0], frame[1], maxStrips+2))
	}
	checkNoCard(t, impl.Card{})
	checkNoCard(t, cardOf(1, 1, slices.Repeat([]string{"df"}, 256+1)...))
	checkNoCard(t, cardOf(1, 1, slices.Repeat([]string{"df"}, 10000)...))
}

func TestCardOkLooksAtEveryStrip(t *testing.T) {
	wrong := []string{"", "d", "f", "df", "ddf", "fff", "ddff", "dff ", " dff", "DFF", "dxf", "dfg", "fdff", "ddd", "d\x00f", "dfé", "\u0164ff", "d\u0166f", strings.Repeat("f", 100000), strings.Repeat("dff", 10000)}
	for n := 1; n <= maxStrips; n++ {
		for k := range n {
			for _, s := range wrong {
				c := mixedCard(1, 2, n)
				c.Strips[k] = s
				checkCardOk(t, c, false)
			}
			c := mixedCard(1, 2, n)
			c.Strips[k] = "fdf"
			checkCardOk(t, c, true)
		}
	}
	for _, s := range wrong {
		checkNoCard(t, cardOf(1, 2, s))
		checkNoCard(t, cardOf(1, 2, "fdf", s))
		checkNoCard(t, cardOf(1, 2, s, "fdf", "dff"))
	}
}

func TestGreatNumbersForAFrameAreRejected(t *testing.T) {
	for _, n := range greatNumbers {
		for _, c := range []impl.Card{cardOf(n, 1, "df"), cardOf(1, n, "df"), cardOf(n, n, "df"), cardOf(n, n, ""), cardOf(n, 2)} {
			checkNoCard(t, c)
		}
		for m := -1; m <= maxSteps+1; m++ {
			checkPlain(t, n, m, 1)
			checkPlain(t, m, n, 1)
			checkPlain(t, m, m, n)
		}
		checkPlain(t, n, n, n)
	}
}

func TestPlainCards(t *testing.T) {
	for down := -2; down <= maxSteps+2; down++ {
		for forward := -2; forward <= maxSteps+2; forward++ {
			for n := -2; n <= maxStrips+2; n++ {
				checkPlain(t, down, forward, n)
				if c, ok := impl.PlainCard(down, forward, n); ok {
					checkCardOk(t, c, true)
				}
			}
		}
	}
	c, ok := impl.PlainCard(2, 3, 3)
	if !ok || !isEqualCard(c, cardOf(2, 3, "ddfff", "ddfff", "ddfff")) {
		t.Errorf("PlainCard(2, 3, 3) = %v, %v", c, ok)
	}
	overwrite(c)
	checkPlain(t, 2, 3, 3)
}

func TestEditsOfOneCard(t *testing.T) {
	c := cardOf(2, 2, "ddff", "dfdf", "fddf")
	checkEdit(t, withEdit(0, "ffdd"), c, []string{"ffdd", "dfdf", "fddf"})
	checkEdit(t, withEdit(1, "ffdd"), c, []string{"ddff", "ffdd", "fddf"})
	checkEdit(t, withEdit(2, "ffdd"), c, []string{"ddff", "dfdf", "ffdd"})
	checkEdit(t, withEdit(1, "dfdf"), c, c.Strips)
	checkEdit(t, putEdit(0, "ffdd"), c, []string{"ffdd", "ddff", "dfdf", "fddf"})
	checkEdit(t, putEdit(1, "ffdd"), c, []string{"ddff", "ffdd", "dfdf", "fddf"})
	checkEdit(t, putEdit(2, "ffdd"), c, []string{"ddff", "dfdf", "ffdd", "fddf"})
	checkEdit(t, putEdit(3, "ffdd"), c, []string{"ddff", "dfdf", "fddf", "ffdd"})
	checkEdit(t, cutEdit(0), c, []string{"dfdf", "fddf"})
	checkEdit(t, cutEdit(1), c, []string{"ddff", "fddf"})
	checkEdit(t, cutEdit(2), c, []string{"ddff", "dfdf"})
	checkNoEdits(t, c, -1, "ffdd")
	checkNoEdits(t, c, 4, "ffdd")
	checkEdit(t, withEdit(3, "ffdd"), c, nil)
	checkEdit(t, cutEdit(3), c, nil)
	for _, s := range []string{"", "fdd", "ddf", "ddfff", "dddff", "df", "dddf", "fffd", "dd ff", "ddfx", "DDFF", "ddff\n", "ffff", "dddd"} {
		for k := -1; k <= 4; k++ {
			checkEdit(t, withEdit(k, s), c, nil)
			checkEdit(t, putEdit(k, s), c, nil)
		}
	}
}

func TestEditsOfAllSmallCards(t *testing.T) {
	words := allWords(5)
	for _, frame := range [][3]int{{1, 1, 3}, {1, 2, 3}, {2, 1, 3}, {2, 2, 2}, {3, 1, 2}} {
		for _, strips := range listsOf(stripsOf(frame[0], frame[1]), frame[2]) {
			for k := -2; k <= len(strips)+2; k++ {
				for _, s := range words {
					checkEdits(t, cardOf(frame[0], frame[1], strips...), k, s)
				}
			}
		}
	}
}

func TestEditsOfSmallCardsThatMayBeInvalid(t *testing.T) {
	for _, strips := range listsOf([]string{"", "df", "fd", "dff", "d"}, 3) {
		for down := range 3 {
			for forward := range 3 {
				for k := -1; k <= len(strips)+1; k++ {
					for _, s := range []string{"", "fd", "fdf", "d"} {
						checkEdits(t, cardOf(down, forward, strips...), k, s)
					}
				}
			}
		}
	}
}

func TestEditsOfEveryNumberOfStrips(t *testing.T) {
	for n := range maxStrips + 3 {
		for _, frame := range [][2]int{{1, 1}, {2, 2}, {3, 4}, {maxSteps, 1}, {1, maxSteps}, {maxSteps, maxSteps}} {
			c := mixedCard(frame[0], frame[1], n)
			high := impl.HighStrip(frame[0], frame[1])
			for k := -2; k <= n+2; k++ {
				checkEdits(t, c, k, high)
				checkEdits(t, c, k, high+"d")
				checkEdits(t, c, k, high[1:])
				checkEdits(t, c, k, impl.HighStrip(frame[1], frame[0]))
			}
		}
	}
}

func TestStripsThatArePutInCanBeCutOut(t *testing.T) {
	for n := 1; n < maxStrips; n++ {
		c := mixedCard(3, 2, n)
		for k := range n + 1 {
			for _, s := range stripsOf(3, 2) {
				put, ok := impl.PutStrip(c, k, s)
				if !ok || len(put.Strips) != n+1 || put.Strips[k] != s {
					t.Errorf("PutStrip(%v, %d, %q) = %v, %v", c, k, s, put, ok)
					continue
				}
				checkCardOk(t, put, true)
				checkEdit(t, cutEdit(k), put, c.Strips)
				checkSame(t, put, c, false)
			}
		}
	}
}

func TestStripsThatAreCutOutCanBePutIn(t *testing.T) {
	for n := 2; n <= maxStrips; n++ {
		c := mixedCard(2, 4, n)
		for k := range n {
			cut, ok := impl.CutStrip(c, k)
			if !ok || len(cut.Strips) != n-1 {
				t.Errorf("CutStrip(%v, %d) = %v, %v", c, k, cut, ok)
				continue
			}
			checkEdit(t, putEdit(k, c.Strips[k]), cut, c.Strips)
			// Another strip at the same place is the one of WithStrip.
			put, _ := impl.PutStrip(cut, k, "fffdfd")
			checkEdit(t, withEdit(k, "fffdfd"), c, put.Strips)
		}
	}
}

func TestCardsGrowToTheLimitAndShrinkToOneStrip(t *testing.T) {
	c, _ := impl.PlainCard(2, 2, 1)
	for n := 2; n <= maxStrips; n++ {
		next, ok := impl.PutStrip(c, n/2, "fdfd")
		if !ok || len(next.Strips) != n {
			t.Fatalf("PutStrip(%v, %d) = %v, %v", c, n/2, next, ok)
		}
		c = next
	}
	for k := range maxStrips + 1 {
		checkEdit(t, putEdit(k, "fdfd"), c, nil)
	}
	for n := maxStrips - 1; n >= 1; n-- {
		next, ok := impl.CutStrip(c, n/2)
		if !ok || len(next.Strips) != n {
			t.Fatalf("CutStrip(%v, %d) = %v, %v", c, n/2, next, ok)
		}
		c = next
	}
	checkEdit(t, cutEdit(0), c, nil)
	checkEdit(t, cutEdit(1), c, nil)
	checkEdit(t, withEdit(0, "fddf"), c, []string{"fddf"})
}

func TestGreatNumbersForAnIndexAreRejected(t *testing.T) {
	for n := 1; n <= maxStrips; n++ {
		c := mixedCard(2, 3, n)
		for _, k := range slices.Concat(greatNumbers, []int{-n, -n - 1, -2, -1, n + 1, n + 2, 2 * n, 100}) {
			if k < 0 || k > n {
				checkNoEdits(t, c, k, "fdfdf")
			}
		}
	}
}

func TestInvalidCardsAreNotRepaired(t *testing.T) {
	full := mixedCard(2, 2, maxStrips+1)
	for k := range full.Strips {
		checkEdit(t, cutEdit(k), full, nil)
		checkEdit(t, withEdit(k, "ffdd"), full, nil)
	}
	checkEdit(t, putEdit(0, "ffdd"), cardOf(2, 2), nil)
	for k := range 3 {
		c := mixedCard(2, 2, 3)
		c.Strips[k] = "dff"
		checkEdit(t, withEdit(k, "ffdd"), c, nil)
		checkEdit(t, cutEdit(k), c, nil)
		checkNoCard(t, c)
	}
}

func TestSameCardOfSmallCards(t *testing.T) {
	var cards []impl.Card
	for _, strips := range listsOf([]string{"", "df", "fd"}, 2) {
		for down := -1; down <= 1; down++ {
			for forward := -1; forward <= 1; forward++ {
				cards = append(cards, cardOf(down, forward, strips...))
			}
		}
	}
	for _, b := range cards {
		for _, c := range cards {
			checkSame(t, b, c, isEqualCard(b, c))
		}
	}
}

func TestSameCardLooksAtEveryField(t *testing.T) {
	for n := 1; n <= maxStrips; n++ {
		c := mixedCard(3, 3, n)
		checkSame(t, c, mixedCard(3, 3, n), true)
		checkSame(t, c, mixedCard(3, 3, n+1), false)
		checkSame(t, c, mixedCard(3, 3, n-1), false)
		for _, frame := range [][2]int{{2, 3}, {3, 2}, {4, 3}, {3, 4}, {3 + 256, 3}, {3, 3 + 1<<32}, {-3, 3}, {0, 0}} {
			checkSame(t, c, cardOf(frame[0], frame[1], c.Strips...), false)
		}
		for k := range n {
			for _, s := range []string{"fffddd", "dddff", "dddffff", "", "dddffF"} {
				b := mixedCard(3, 3, n)
				b.Strips[k] = s
				checkSame(t, b, c, s == c.Strips[k])
			}
		}
	}
	checkSame(t, cardOf(2, 3, "ddfff"), cardOf(3, 2, "ddfff"), false)
	checkSame(t, cardOf(1, 1, "df", "fd"), cardOf(1, 1, "fd", "df"), false)
	checkSame(t, cardOf(1, 1, "df", "fd"), cardOf(1, 1, "dffd"), false)
}

func TestSameCardOfInvalidCards(t *testing.T) {
	checkSame(t, impl.Card{}, impl.Card{}, true)
	checkSame(t, impl.Card{}, impl.SampleCard(), false)
	checkSame(t, impl.Card{Strips: nil}, impl.Card{Strips: []string{}}, true)
	checkSame(t, cardOf(0, 0), cardOf(0, 0, ""), false)
	if !impl.SameCard(impl.Card{}, impl.Card{Strips: []string{}}) || !impl.SameCard(impl.Card{Strips: []string{}}, impl.Card{}) {
		t.Error("SameCard tells no strips from an empty slice of strips")
	}
	for _, n := range greatNumbers {
		checkSame(t, cardOf(n, n, "x", "\xff"), cardOf(n, n, "x", "\xff"), true)
		checkSame(t, cardOf(n, n), cardOf(n+1, n), false)
		checkSame(t, cardOf(n, n), cardOf(n, n+1), false)
	}
	many := slices.Repeat([]string{"df"}, 10000)
	checkSame(t, cardOf(1, 1, many...), cardOf(1, 1, many...), true)
	checkSame(t, cardOf(1, 1, many...), cardOf(1, 1, many[1:]...), false)
}

func TestSampleCard(t *testing.T) {
	want := cardOf(3, 4, "dddffff", "dfdffdf", "dfdffdf", "ffddffd", "dddffff")
	c := impl.SampleCard()
	if !isEqualCard(c, want) {
		t.Errorf("SampleCard() = %v, want %v", c, want)
	}
	checkCardOk(t, c, true)
	overwrite(c)
	checkSame(t, impl.SampleCard(), want, true)
	for k := range 7 {
		checkEdits(t, want, k-1, "fdfdfdf")
		checkEdits(t, want, k-1, "fdfdfd")
	}
}
