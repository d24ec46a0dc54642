package tests

import (
	"math"
	"slices"
	"strings"
	"testing"

	"loop.example/g03305/impl"
)

func boxOf(first int, last int, at int) impl.Box {
	return impl.Box{First: first, Last: last, At: at}
}

func addEdit(b impl.Box) edit {
	return edit{"AddBox", []any{b}, func(c impl.Card) (impl.Card, bool) { return impl.AddBox(c, b) }}
}

func takeEdit(b impl.Box) edit {
	return edit{"TakeBox", []any{b}, func(c impl.Card) (impl.Card, bool) { return impl.TakeBox(c, b) }}
}

// flipBox writes other letters at the number of a box into all its strips. It returns nil if the card is not valid or does not have all these strips, or if one of them does not have the expected letters there.
func flipBox(c impl.Card, b impl.Box, letters string, others string) []string {
	if !isGoodCard(c) || b.First < 0 || b.First > b.Last || b.Last >= len(c.Strips) || b.At < 1 || b.At >= c.Down+c.Forward {
		return nil
	}
	strips := slices.Clone(c.Strips)
	for k, s := range strips {
		if k >= b.First && k <= b.Last {
			if s[b.At-1:b.At+1] != letters {
				return nil
			}
			strips[k] = s[:b.At-1] + others + s[b.At+1:]
		}
	}
	return strips
}

// allBoxes returns the boxes of a card with n strips and of some that it does not have, at all numbers and at some where there is no step.
func allBoxes(n int, steps int) []impl.Box {
	var boxes []impl.Box
	for first := -2; first <= n+1; first++ {
		for last := -2; last <= n+1; last++ {
			for at := -2; at <= steps+2; at++ {
				boxes = append(boxes, boxOf(first, last, at))
			}
		}
	}
	return boxes
}

// checkApart expects that no two of some lists share memory.
func checkApart[E any](t *testing.T, lists ...[]E) {
	t.Helper()
	owners := map[*E]int{}
	for i, list := range lists {
		all := list[:cap(list)]
		for j := range all {
			if owner, ok := owners[&all[j]]; ok {
				t.Fatalf("lists %d and %d of %d share memory", owner, i, len(lists))
			}
			owners[&all[j]] = i
		}
	}
}

// checkLeft expects that a function leaves a card and the memory behind it alone.
func checkLeft(t *testing.T, c impl.Card, run func(c impl.Card)) {
	t.Helper()
	given, all := withSpare(c)
	before := slices.Clone(all)
	run(given)
	if !slices.Equal(all, before) {
		t.Errorf("the card %s or the memory behind it was changed to %.80q", shortText(c), all)
	}
}

// checkBoxIs expects that adding a box leads to these strips, and that taking it away leads to those; nil where it is not possible.
func checkBoxIs(t *testing.T, c impl.Card, b impl.Box, added []string, taken []string) {
	t.Helper()
	checkLeft(t, c, func(c impl.Card) {
		if got := impl.CanAdd(c, b); got != (added != nil) {
			t.Errorf("CanAdd(%s, %v) = %v", shortText(c), b, got)
		}
	})
	checkEdit(t, addEdit(b), c, added)
	checkEdit(t, takeEdit(b), c, taken)
}

// checkNoBox expects that a box can be neither added nor taken away.
func checkNoBox(t *testing.T, c impl.Card, b impl.Box) {
	t.Helper()
	checkBoxIs(t, c, b, nil, nil)
}

// checkBox compares a box with the letters of the strips, and takes it away again where it is added, and the other way round.
func checkBox(t *testing.T, c impl.Card, b impl.Box) {
	t.Helper()
	added, taken := flipBox(c, b, "df", "fd"), flipBox(c, b, "fd", "df")
	checkBoxIs(t, c, b, added, taken)
	if added != nil {
		checkBoxIs(t, cardOf(c.Down, c.Forward, added...), b, nil, c.Strips)
	}
	if taken != nil {
		checkBoxIs(t, cardOf(c.Down, c.Forward, taken...), b, c.Strips, nil)
	}
}

// checkAdded expects these strips from AddBoxes, and this number of added boxes.
func checkAdded(t *testing.T, c impl.Card, list []impl.Box, strips []string, n int) {
	t.Helper()
	want := cardOf(c.Down, c.Forward, strips...)
	all := append(slices.Clone(list), boxOf(7, 8, 9), boxOf(0, 0, 1))
	before := slices.Clone(all)
	// The result of the first round is overwritten, which the second one must not see.
	for range 2 {
		checkLeft(t, c, func(c impl.Card) {
			got, added := impl.AddBoxes(c, all[:len(list)])
			if !isEqualCard(got, want) || added != n {
				t.Errorf("AddBoxes(%s, %.20v of %d) = %s, %d, want %s, %d", shortText(c), list, len(list), shortText(got), added, shortText(want), n)
			}
			overwrite(got)
		})
		if !slices.Equal(all, before) {
			t.Errorf("AddBoxes(%s, ..) changed its list %v or the memory behind it to %v", shortText(c), list, all)
		}
	}
}

// checkList compares AddBoxes with the letters of the strips, box by box.
func checkList(t *testing.T, c impl.Card, list []impl.Box) {
	t.Helper()
	at, n := c, 0
	for _, b := range list {
		if strips := flipBox(at, b, "df", "fd"); strips != nil {
			at.Strips = strips
			n++
		}
	}
	checkAdded(t, c, list, at.Strips, n)
}

// checkBuiltOf expects these boxes from BoxesFor.
func checkBuiltOf(t *testing.T, c impl.Card, want []impl.Box, ok bool) {
	t.Helper()
	// The list of the first round is overwritten, which the second one must not see.
	for range 2 {
		checkLeft(t, c, func(c impl.Card) {
			got, gotOk := impl.BoxesFor(c)
			if !slices.Equal(got, want) || gotOk != ok {
				t.Errorf("BoxesFor(%s) = %v, %v, want %v, %v", shortText(c), got, gotOk, want, ok)
			}
			all := got[:cap(got)]
			for i := range all {
				all[i] = boxOf(-7, -8, -9)
			}
		})
	}
}

// checkBuilt compares the boxes of a card with the squares under its strips, adds them one by one and takes them away again.
func checkBuilt(t *testing.T, c impl.Card) {
	t.Helper()
	flat := strings.Repeat("d", c.Down) + strings.Repeat("f", c.Forward)
	var want []impl.Box
	for k, s := range c.Strips {
		for _, at := range wantWay(flat, s) {
			want = append(want, boxOf(k, k, at))
		}
	}
	checkBuiltOf(t, c, want, true)
	plain, _ := impl.PlainCard(c.Down, c.Forward, len(c.Strips))
	checkAdded(t, plain, want, c.Strips, len(want))
	if volume := impl.VolumeOf(c); volume != len(want) {
		t.Errorf("the volume of %v is %d, but it is built of %d boxes", c, volume, len(want))
	}
	checkPromisedBoxes(t, c)
}

// checkPromisedBoxes builds a card of its boxes, and expects that each of them can be taken away again.
func checkPromisedBoxes(t *testing.T, c impl.Card) {
	t.Helper()
	boxes, _ := impl.BoxesFor(c)
	at, _ := impl.PlainCard(c.Down, c.Forward, len(c.Strips))
	cards := []impl.Card{at}
	for _, b := range boxes {
		next, ok := impl.AddBox(at, b)
		back, gone := impl.TakeBox(next, b)
		if !ok || !impl.CanAdd(at, b) || !gone || !isEqualCard(back, at) || b.First != b.Last {
			t.Errorf("the box %v of %v leads from %v to %v, %v, and back to %v, %v", b, c, at, next, ok, back, gone)
		}
		at = next
		cards = append(cards, at)
	}
	if !isEqualCard(at, c) {
		t.Errorf("the boxes %v of %v lead to %v", boxes, c, at)
	}
	for i, b := range slices.Backward(boxes) {
		next, ok := impl.TakeBox(at, b)
		if !ok || !isEqualCard(next, cards[i]) {
			t.Errorf("without the box %v of %v, %v is %v, %v", b, c, at, next, ok)
		}
		at = next
	}
}

// checkWidestIs expects this box from WidestBox, or none if it is the zero box, which contains only the strip 0 at a number without step.
func checkWidestIs(t *testing.T, c impl.Card, k int, at int, want impl.Box) {
	t.Helper()
	checkLeft(t, c, func(c impl.Card) {
		if got, ok := impl.WidestBox(c, k, at); got != want || ok != (want != impl.Box{}) {
			t.Errorf("WidestBox(%s, %d, %d) = %v, %v, want %v", shortText(c), k, at, got, ok, want)
		}
	})
}

// checkWidest compares the widest box with all boxes that contain a strip.
func checkWidest(t *testing.T, c impl.Card, k int, at int) {
	t.Helper()
	want := impl.Box{}
	for first := range c.Strips {
		for last := range c.Strips {
			wide := boxOf(first, last, at)
			if first <= k && last >= k && last-first >= want.Last-want.First && flipBox(c, wide, "df", "fd") != nil {
				want = wide
			}
		}
	}
	checkWidestIs(t, c, k, at, want)
}

// checkAllBoxes checks every function of the chapter with a valid card and all its boxes.
func checkAllBoxes(t *testing.T, c impl.Card) {
	t.Helper()
	n, steps := len(c.Strips), c.Down+c.Forward
	boxes := allBoxes(n, steps)
	for _, b := range boxes {
		checkBox(t, c, b)
	}
	checkList(t, c, boxes)
	slices.Reverse(boxes)
	checkList(t, c, boxes)
	checkBuilt(t, c)
	for k := -2; k <= n+1; k++ {
		for at := -2; at <= steps+2; at++ {
			checkWidest(t, c, k, at)
		}
	}
}

// checkNoBoxes expects that every function of the chapter rejects a card that is not valid.
func checkNoBoxes(t *testing.T, c impl.Card) {
	t.Helper()
	n := len(c.Strips)
	for _, b := range []impl.Box{{}, boxOf(0, 0, 1), boxOf(0, 0, 2), boxOf(0, 0, 3), boxOf(0, n-1, 1), boxOf(n-1, n-1, 2), boxOf(n/2, n-1, 1), boxOf(0, n, 1), boxOf(1, 0, 1), boxOf(-1, -1, -1), boxOf(0, math.MaxInt, 1), boxOf(math.MinInt, math.MaxInt, math.MinInt)} {
		checkNoBox(t, c, b)
		checkAdded(t, c, []impl.Box{b, boxOf(0, 0, 1), b}, c.Strips, -1)
		for _, k := range []int{b.First, b.Last, n / 2} {
			checkWidestIs(t, c, k, b.At, impl.Box{})
		}
	}
	checkAdded(t, c, nil, c.Strips, -1)
	checkBuiltOf(t, c, nil, false)
}

// someBoxes returns n boxes of a card, of changing widths and at changing numbers.
func someBoxes(n int, strips int, steps int) []impl.Box {
	var boxes []impl.Box
	state := 1
	for range n {
		state = (state*1103515245 + 12345) % (1 << 31)
		first, width, at := state>>8%strips, state>>14%strips, state>>20%steps
		boxes = append(boxes, boxOf(first, min(first+width/2, strips-1), at))
	}
	return boxes
}

func TestBoxesOfAllSmallCards(t *testing.T) {
	for _, frame := range [][3]int{{1, 1, 4}, {1, 2, 3}, {2, 1, 3}, {2, 2, 2}, {1, 3, 2}, {3, 2, 1}, {2, 3, 1}, {3, 3, 1}} {
		for _, c := range cardsOf(frame[0], frame[1], frame[2]) {
			checkAllBoxes(t, c)
		}
	}
}

func TestBoxesOfEveryNumberOfStrips(t *testing.T) {
	for n := 1; n <= maxStrips; n++ {
		for _, frame := range [][2]int{{1, 1}, {2, 2}, {3, 4}, {maxSteps, 1}, {1, maxSteps}} {
			checkAllBoxes(t, mixedCard(frame[0], frame[1], n))
		}
	}
	for _, n := range []int{1, 2, 5, maxStrips} {
		checkAllBoxes(t, mixedCard(maxSteps, maxSteps, n))
		zigzag := strings.Repeat("df", maxSteps)
		checkAllBoxes(t, cardOf(maxSteps, maxSteps, slices.Repeat([]string{zigzag}, n)...))
	}
	checkAllBoxes(t, impl.SampleCard())
}

func TestBoxesOfPlainAndHighCards(t *testing.T) {
	for i, frame := range allFrames() {
		down, forward, n := frame[0], frame[1], 1+i%maxStrips
		flat, high := impl.FlatStrip(down, forward), impl.HighStrip(down, forward)
		plain, highest := cardOf(down, forward, slices.Repeat([]string{flat}, n)...), cardOf(down, forward, slices.Repeat([]string{high}, n)...)
		checkBuiltOf(t, plain, nil, true)
		checkBuilt(t, plain)
		checkBuilt(t, highest)
		if boxes, ok := impl.BoxesFor(highest); !ok || len(boxes) != n*down*forward {
			t.Errorf("BoxesFor(%v) returns %d boxes, %v", highest, len(boxes), ok)
		}
		for k := range n {
			checkBox(t, plain, boxOf(0, k, down))
			checkBox(t, plain, boxOf(k, n-1, down))
			checkBox(t, highest, boxOf(k, k, forward))
			for at := -1; at <= down+forward+1; at++ {
				want := impl.Box{}
				if at == down {
					want = boxOf(0, n-1, down)
				} else {
					checkNoBox(t, plain, boxOf(k, k, at))
				}
				checkWidestIs(t, plain, k, at, want)
				checkWidestIs(t, highest, k, at, impl.Box{})
				checkBoxIs(t, highest, boxOf(k, k, at), nil, flipBox(highest, boxOf(k, k, at), "fd", "df"))
			}
		}
	}
	checkAllBoxes(t, cardOf(maxSteps, maxSteps, slices.Repeat([]string{"ffffffffdddddddd"}, maxStrips)...))
	checkAllBoxes(t, cardOf(maxSteps, maxSteps, slices.Repeat([]string{"ddddddddffffffff"}, maxStrips)...))
}

func TestBoxesOfOneCard(t *testing.T) {
	c := cardOf(2, 2, "dfdf", "dfdf", "ddff", "fddf", "dffd")
	checkBoxIs(t, c, boxOf(0, 0, 1), []string{"fddf", "dfdf", "ddff", "fddf", "dffd"}, nil)
	checkBoxIs(t, c, boxOf(0, 1, 1), []string{"fddf", "fddf", "ddff", "fddf", "dffd"}, nil)
	checkBoxIs(t, c, boxOf(0, 1, 3), []string{"dffd", "dffd", "ddff", "fddf", "dffd"}, nil)
	checkBoxIs(t, c, boxOf(1, 1, 3), []string{"dfdf", "dffd", "ddff", "fddf", "dffd"}, nil)
	checkBoxIs(t, c, boxOf(2, 2, 2), []string{"dfdf", "dfdf", "dfdf", "fddf", "dffd"}, nil)
	checkBoxIs(t, c, boxOf(4, 4, 1), []string{"dfdf", "dfdf", "ddff", "fddf", "fdfd"}, nil)
	checkBoxIs(t, c, boxOf(0, 0, 2), nil, []string{"ddff", "dfdf", "ddff", "fddf", "dffd"})
	checkBoxIs(t, c, boxOf(0, 1, 2), nil, []string{"ddff", "ddff", "ddff", "fddf", "dffd"})
	checkBoxIs(t, c, boxOf(3, 3, 1), nil, []string{"dfdf", "dfdf", "ddff", "dfdf", "dffd"})
	checkBoxIs(t, c, boxOf(4, 4, 3), nil, []string{"dfdf", "dfdf", "ddff", "fddf", "dfdf"})
	// Another strip of the box has neither valley nor mountain at its number.
	checkNoBox(t, c, boxOf(0, 2, 1))
	checkNoBox(t, c, boxOf(0, 2, 2))
	checkNoBox(t, c, boxOf(2, 3, 3))
	// One strip has a valley and another one a mountain there.
	checkNoBox(t, c, boxOf(1, 2, 2))
	checkNoBox(t, c, boxOf(3, 4, 3))
	checkNoBox(t, c, boxOf(3, 4, 1))
	// All strips have a valley or a mountain there, but for one.
	checkNoBox(t, c, boxOf(0, 4, 1))
	checkNoBox(t, c, boxOf(0, 4, 2))
	checkNoBox(t, c, boxOf(0, 4, 3))
}

func TestBoxesOverStripsThatDiffer(t *testing.T) {
	different := []string{"fddffd", "fdfddf", "dfddff", "ddffdf"}
	for _, letters := range []string{"df", "fd"} {
		flip := impl.AddBox
		if letters == "fd" {
			flip = impl.TakeBox
		}
		for _, s := range different {
			for n := 1; n <= maxStrips; n++ {
				for k := range n {
					// All strips have these letters at 3, but for one.
					strips := slices.Repeat([]string{"df" + letters + "df"}, n)
					strips[k] = s
					c := cardOf(3, 3, strips...)
					for first := range n {
						for last := first; last < n; last++ {
							b := boxOf(first, last, 3)
							checkBox(t, c, b)
							fits := s[2:4] == letters || k < first || k > last
							if _, ok := flip(c, b); ok != fits {
								t.Errorf("the letters %s of the box %v in %v can be exchanged: %v", letters, b, c, ok)
							}
						}
						checkWidest(t, c, first, 3)
					}
				}
			}
		}
	}
}

func TestBoxesRaiseSquaresOfDifferentHeights(t *testing.T) {
	// The number of the valley is the same, but each square lies at another place.
	c := cardOf(3, 3, "dddfff", "ddfdff", "dffddf", "fddfdf", "dfdffd", "ffddfd")
	checkBoxIs(t, c, boxOf(0, 0, 3), []string{"ddfdff", "ddfdff", "dffddf", "fddfdf", "dfdffd", "ffddfd"}, nil)
	checkBoxIs(t, c, boxOf(3, 4, 3), []string{"dddfff", "ddfdff", "dffddf", "fdfddf", "dffdfd", "ffddfd"}, nil)
	checkBoxIs(t, c, boxOf(1, 2, 3), nil, []string{"dddfff", "dddfff", "dfdfdf", "fddfdf", "dfdffd", "ffddfd"})
	checkBoxIs(t, c, boxOf(3, 3, 5), []string{"dddfff", "ddfdff", "dffddf", "fddffd", "dfdffd", "ffddfd"}, nil)
	checkBoxIs(t, c, boxOf(4, 5, 5), nil, []string{"dddfff", "ddfdff", "dffddf", "fddfdf", "dfdfdf", "ffdddf"})
	checkNoBox(t, c, boxOf(2, 5, 5))
	checkWidestIs(t, c, 0, 3, boxOf(0, 0, 3))
	checkWidestIs(t, c, 3, 3, boxOf(3, 4, 3))
	checkWidestIs(t, c, 4, 3, boxOf(3, 4, 3))
	checkWidestIs(t, c, 2, 5, boxOf(2, 3, 5))
}

func TestBoxesOfStripsThatAreNotThere(t *testing.T) {
	for n := 1; n <= maxStrips; n += 3 {
		c := cardOf(2, 2, slices.Repeat([]string{"dfdf"}, n)...)
		numbers := slices.Concat(greatNumbers, []int{math.MinInt + 2, -n, -1, n, n + 1, 1<<8 + n, 1<<16 + 1, 1<<32 + n})
		for _, k := range numbers {
			boxes := []impl.Box{boxOf(k, 0, 1), boxOf(k, n-1, 1), boxOf(0, k, 1), boxOf(n-1, k, 1)}
			for _, last := range numbers {
				boxes = append(boxes, boxOf(k, last, 1), boxOf(k, last, 2))
			}
			for _, b := range boxes {
				checkNoBox(t, c, b)
			}
			checkAdded(t, c, boxes, c.Strips, 0)
			checkWidestIs(t, c, k, 1, impl.Box{})
			checkWidestIs(t, c, k, 3, impl.Box{})
		}
	}
}

func TestBoxesAtNumbersWithoutStep(t *testing.T) {
	for n := 1; n <= maxStrips; n += 3 {
		for _, s := range []string{"df", "fd", "dfdf", "fdfd", strings.Repeat("df", maxSteps)} {
			c := cardOf(len(s)/2, len(s)/2, slices.Repeat([]string{s}, n)...)
			for _, at := range slices.Concat(greatNumbers, []int{-len(s), -1, 0, len(s), len(s) + 1, 1<<8 + 1, 1<<16 + 1, 1<<32 + 3}) {
				boxes := []impl.Box{boxOf(0, 0, at), boxOf(0, n-1, at), boxOf(n-1, n-1, at), boxOf(at, at, at)}
				for _, b := range boxes {
					checkNoBox(t, c, b)
				}
				checkAdded(t, c, boxes, c.Strips, 0)
				for k := -1; k <= n; k++ {
					checkWidestIs(t, c, k, at, impl.Box{})
				}
				checkWidestIs(t, c, at, at, impl.Box{})
			}
		}
	}
}

func TestListsOfBoxes(t *testing.T) {
	c := cardOf(2, 2, "ddff", "ddff", "ddff")
	// The other boxes can be added only after the first one.
	checkAdded(t, c, []impl.Box{boxOf(0, 2, 2), boxOf(0, 1, 1), boxOf(1, 2, 3)}, []string{"fddf", "fdfd", "dffd"}, 3)
	checkAdded(t, c, []impl.Box{boxOf(0, 1, 1), boxOf(1, 2, 3), boxOf(0, 2, 2)}, []string{"dfdf", "dfdf", "dfdf"}, 1)
	checkAdded(t, c, []impl.Box{boxOf(0, 1, 1), boxOf(0, 2, 2), boxOf(1, 2, 3)}, []string{"dfdf", "dffd", "dffd"}, 2)
	// The same box twice.
	checkAdded(t, c, []impl.Box{boxOf(0, 2, 2), boxOf(0, 2, 2)}, []string{"dfdf", "dfdf", "dfdf"}, 1)
	checkAdded(t, c, []impl.Box{boxOf(1, 1, 2), boxOf(1, 1, 2), boxOf(1, 1, 1), boxOf(1, 1, 1), boxOf(1, 1, 3), boxOf(1, 1, 3)}, []string{"ddff", "fdfd", "ddff"}, 3)
	// The same box is added again where others lie between.
	checkAdded(t, c, []impl.Box{boxOf(1, 1, 2), boxOf(1, 1, 1), boxOf(1, 1, 3), boxOf(1, 1, 2), boxOf(1, 1, 2)}, []string{"ddff", "ffdd", "ddff"}, 4)
	// Some can never be added.
	never := []impl.Box{{}, boxOf(0, 3, 2), boxOf(-1, 2, 2), boxOf(2, 1, 2), boxOf(0, 2, 0), boxOf(0, 2, 4), boxOf(0, 2, -2), boxOf(3, 3, 2), boxOf(0, math.MaxInt, 2), boxOf(math.MinInt, 0, 2), boxOf(0, 0, math.MaxInt)}
	checkAdded(t, c, never, c.Strips, 0)
	checkAdded(t, c, slices.Concat(never, []impl.Box{boxOf(0, 0, 2)}, never, []impl.Box{boxOf(2, 2, 2)}, never), []string{"dfdf", "ddff", "dfdf"}, 2)
	// A box that overlaps one that was added differs there.
	checkAdded(t, c, []impl.Box{boxOf(1, 1, 2), boxOf(0, 2, 2), boxOf(0, 1, 2), boxOf(1, 2, 2), boxOf(2, 2, 2), boxOf(0, 0, 2)}, []string{"dfdf", "dfdf", "dfdf"}, 3)
}

func TestEmptyListsOfBoxes(t *testing.T) {
	for _, c := range append(cardsOf(2, 2, 2), mixedCard(maxSteps, maxSteps, maxStrips)) {
		checkAdded(t, c, nil, c.Strips, 0)
		checkAdded(t, c, []impl.Box{}, c.Strips, 0)
	}
}

func TestAllShortListsOfBoxes(t *testing.T) {
	boxes := []impl.Box{boxOf(0, 1, 2), boxOf(0, 0, 1), boxOf(0, 0, 2), boxOf(1, 1, 3), boxOf(0, 1, 1), boxOf(1, 2, 2), boxOf(1, 0, 2)}
	for _, list := range listsOf(boxes, 4) {
		checkList(t, cardOf(2, 2, "ddff", "ddff"), list)
		checkList(t, cardOf(2, 2, "dfdf", "dffd"), list)
		checkList(t, cardOf(2, 2, "fddf", "ddff", "ddff"), list)
	}
}

func TestLongListsOfBoxes(t *testing.T) {
	for _, frame := range [][2]int{{1, 1}, {2, 3}, {4, 4}, {maxSteps, 1}, {maxSteps, maxSteps}} {
		for n := 1; n <= maxStrips; n += 3 {
			boxes := someBoxes(2000, n, frame[0]+frame[1])
			plain, _ := impl.PlainCard(frame[0], frame[1], n)
			checkList(t, plain, boxes)
			checkList(t, mixedCard(frame[0], frame[1], n), boxes)
		}
	}
	checkAdded(t, cardOf(1, 1, "df", "df"), slices.Repeat([]impl.Box{boxOf(0, 1, 1)}, 10000), []string{"fd", "fd"}, 1)
	checkAdded(t, cardOf(1, 1, "df", "df"), slices.Repeat([]impl.Box{boxOf(0, 2, 1)}, 10000), []string{"df", "df"}, 0)
}

func TestBoxesOfSomeCards(t *testing.T) {
	checkBuiltOf(t, cardOf(1, 1, "df"), nil, true)
	checkBuiltOf(t, cardOf(1, 1, "fd"), []impl.Box{boxOf(0, 0, 1)}, true)
	checkBuiltOf(t, cardOf(1, 1, "df", "fd", "df", "fd"), []impl.Box{boxOf(1, 1, 1), boxOf(3, 3, 1)}, true)
	checkBuiltOf(t, cardOf(2, 2, "ddff", "dfdf", "dfdf"), []impl.Box{boxOf(1, 1, 2), boxOf(2, 2, 2)}, true)
	checkBuiltOf(t, cardOf(2, 2, "ffdd", "fddf", "ddff", "dffd"), []impl.Box{boxOf(0, 0, 2), boxOf(0, 0, 1), boxOf(0, 0, 3), boxOf(0, 0, 2), boxOf(1, 1, 2), boxOf(1, 1, 1), boxOf(3, 3, 2), boxOf(3, 3, 3)}, true)
	checkBuiltOf(t, cardOf(2, 3, "ddfff", "dfffd"), []impl.Box{boxOf(1, 1, 2), boxOf(1, 1, 3), boxOf(1, 1, 4)}, true)
	checkBuiltOf(t, cardOf(3, 1, "fddd", "dddf", "dfdd"), []impl.Box{boxOf(0, 0, 3), boxOf(0, 0, 2), boxOf(0, 0, 1), boxOf(2, 2, 3), boxOf(2, 2, 2)}, true)
	boxes, ok := impl.BoxesFor(impl.SampleCard())
	if volume := impl.VolumeOf(impl.SampleCard()); !ok || len(boxes) != volume || boxes[0] != boxOf(1, 1, 3) || boxes[volume-1].First != 3 {
		t.Errorf("BoxesFor(SampleCard()) = %v, %v", boxes, ok)
	}
}

func TestBoxesOfManyCards(t *testing.T) {
	for i, frame := range allFrames() {
		checkBuilt(t, mixedCard(frame[0], frame[1], 1+i%maxStrips))
	}
	for _, c := range cardsOf(2, 2, 3) {
		checkBuilt(t, c)
	}
	for _, s := range stripsOf(3, 4) {
		checkBuilt(t, cardOf(3, 4, s, "dddffff", s))
	}
}

func TestWidestBoxesOfOneCard(t *testing.T) {
	c := cardOf(2, 2, "dfdf", "dfdf", "ddff", "dfdf", "dffd", "dfdf")
	// They reach an end of the card, or end in front of a strip that differs.
	for k, wide := range []impl.Box{boxOf(0, 1, 1), boxOf(0, 1, 1), {}, boxOf(3, 5, 1), boxOf(3, 5, 1), boxOf(3, 5, 1)} {
		checkWidestIs(t, c, k, 1, wide)
	}
	for k, wide := range []impl.Box{{}, {}, boxOf(2, 2, 2), {}, {}, {}} {
		checkWidestIs(t, c, k, 2, wide)
	}
	// One strip alone, where its neighbor has a mountain or no corner.
	for k, wide := range []impl.Box{boxOf(0, 1, 3), boxOf(0, 1, 3), {}, boxOf(3, 3, 3), {}, boxOf(5, 5, 3)} {
		checkWidestIs(t, c, k, 3, wide)
	}
	for k := -1; k <= 6; k++ {
		for _, at := range []int{-4, -1, 0, 4, 5} {
			checkWidestIs(t, c, k, at, impl.Box{})
		}
	}
	for at := range 5 {
		checkWidestIs(t, c, -1, at, impl.Box{})
		checkWidestIs(t, c, 6, at, impl.Box{})
	}
}

func TestWidestBoxesAtEveryPlace(t *testing.T) {
	for n := 1; n <= maxStrips; n++ {
		for first := range n {
			for last := first; last < n; last++ {
				for _, other := range []string{"ddff", "fddf", "dfdf", "ffdd"} {
					// A row of strips with a valley at 3, between others that have one only sometimes.
					strips := slices.Repeat([]string{other}, n)
					for k := first; k <= last; k++ {
						strips[k] = []string{"dfdf", "fddf"}[k%2]
					}
					c := cardOf(2, 2, strips...)
					for k := range n {
						checkWidest(t, c, k, 3)
						checkWidest(t, c, k, 1)
						if other == "ddff" || other == "ffdd" {
							want := impl.Box{}
							if k >= first && k <= last {
								want = boxOf(first, last, 3)
							}
							checkWidestIs(t, c, k, 3, want)
						}
					}
				}
			}
		}
	}
}

func TestWidestBoxesEndAtTheFirstStripThatDiffers(t *testing.T) {
	// Behind a strip that differs there are others with a valley at the same number again.
	c := cardOf(1, 1, "df", "fd", "df", "df", "fd", "df", "fd", "df", "df", "df")
	for k, wide := range []impl.Box{boxOf(0, 0, 1), {}, boxOf(2, 3, 1), boxOf(2, 3, 1), {}, boxOf(5, 5, 1), {}, boxOf(7, 9, 1), boxOf(7, 9, 1), boxOf(7, 9, 1)} {
		checkWidestIs(t, c, k, 1, wide)
	}
}

func TestCardsOfWidestBoxes(t *testing.T) {
	for _, frame := range [][3]int{{1, 1, 3}, {2, 3, maxStrips}, {3, 2, 1}, {4, 4, 7}, {maxSteps, 1, 5}, {maxSteps, maxSteps, maxStrips}} {
		c, _ := impl.PlainCard(frame[0], frame[1], frame[2])
		var boxes []impl.Box
		var cards []impl.Card
		for k := 0; k < len(c.Strips); {
			raises := impl.RaisesOf(c.Strips[k])
			if len(raises) == 0 {
				k++
				continue
			}
			b, ok := impl.WidestBox(c, k, raises[len(boxes)%len(raises)])
			next, added := impl.AddBox(c, b)
			// The strips are equal before each box and after it.
			if !ok || !added || b.First != 0 || b.Last != len(c.Strips)-1 || impl.VolumeOf(next) != impl.VolumeOf(c)+len(c.Strips) {
				t.Fatalf("the widest box of %v is %v, %v, and leads to %v, %v", c, b, ok, next, added)
			}
			boxes, cards, c = append(boxes, b), append(cards, c), next
		}
		if len(boxes) != frame[0]*frame[1] || c.Strips[0] != impl.HighStrip(frame[0], frame[1]) {
			t.Errorf("%d boxes lead to %v", len(boxes), c)
		}
		for i, b := range slices.Backward(boxes) {
			checkEdit(t, takeEdit(b), c, cards[i].Strips)
			c, _ = impl.TakeBox(c, b)
		}
	}
}

func TestBoxesOfCardsShareNoMemory(t *testing.T) {
	for n := 1; n <= maxStrips; n++ {
		c, _ := withSpare(cardOf(2, 2, slices.Repeat([]string{"dfdf"}, n)...))
		fits, taken := boxOf(0, n-1, 1), boxOf(0, n-1, 2)
		lists := [][]string{c.Strips}
		for range 2 {
			for _, b := range []impl.Box{fits, taken, boxOf(0, n, 1), boxOf(0, 0, 0)} {
				added, _ := impl.AddBox(c, b)
				less, _ := impl.TakeBox(c, b)
				one, _ := impl.AddBoxes(c, []impl.Box{b})
				two, _ := impl.AddBoxes(c, []impl.Box{b, fits, b})
				none, _ := impl.AddBoxes(c, nil)
				lists = append(lists, added.Strips, less.Strips, one.Strips, two.Strips, none.Strips)
			}
		}
		checkApart(t, lists...)
		first, _ := impl.BoxesFor(c)
		second, _ := impl.BoxesFor(c)
		checkApart(t, first, second)
	}
	for _, c := range []impl.Card{cardOf(1, 1, "df", "dff"), cardOf(0, 1, "df"), mixedCard(2, 2, maxStrips+1)} {
		added, _ := impl.AddBox(c, boxOf(0, 0, 1))
		again, _ := impl.AddBox(c, boxOf(0, 0, 1))
		less, _ := impl.TakeBox(c, boxOf(0, 0, 1))
		all, _ := impl.AddBoxes(c, []impl.Box{boxOf(0, 0, 1)})
		none, _ := impl.AddBoxes(c, nil)
		checkApart(t, c.Strips, added.Strips, again.Strips, less.Strips, all.Strips, none.Strips)
	}
}

func TestBoxesOfInvalidCards(t *testing.T) {
	for _, c := range invalidCards() {
		checkNoBoxes(t, c)
	}
}

func TestBoxesAreNotAddedBesideAWrongStrip(t *testing.T) {
	// The box itself is made of valid strips.
	for _, s := range []string{"", "df", "dfdff", "dfdfdf", "dfdx", "DFDF", "ddddddddd"} {
		c := cardOf(2, 2, "dfdf", "dfdf", s)
		for at := range 5 {
			checkNoBox(t, c, boxOf(0, 1, at))
			checkNoBox(t, c, boxOf(2, 2, at))
			checkWidestIs(t, c, 0, at, impl.Box{})
			checkAdded(t, c, []impl.Box{boxOf(0, 1, at)}, c.Strips, -1)
		}
		checkBuiltOf(t, c, nil, false)
	}
	for _, n := range greatNumbers {
		checkNoBoxes(t, cardOf(n, 2, "dfdf", "dfdf"))
		checkNoBoxes(t, cardOf(2, n, "dfdf", "dfdf"))
	}
}
