package tests

import (
	"math"
	"slices"
	"strings"
	"testing"

	"loop.example/g03305/impl"
)

const (
	noCrease     = 0
	mountainFold = 1
	valleyFold   = 2
)

// wantCreases returns the signs of the creases of a strip, which goes on as a step down at the upright page and as a step forward at the flat one.
func wantCreases(s string) string {
	way, text := "d"+s+"f", ""
	for i := range len(s) + 1 {
		text += map[string]string{"dd": ".", "ff": ".", "fd": "m", "df": "v"}[way[i:i+2]]
	}
	return text
}

// wantCrease tells the crease behind the first i steps of a strip from its corners and its two ends.
func wantCrease(s string, i int) int {
	atUprightPage := i == 0 && strings.HasPrefix(s, "f")
	atFlatPage := i == len(s) && strings.HasSuffix(s, "d")
	switch {
	case impl.IsMountain(s, i):
		return mountainFold
	case impl.IsValley(s, i), atUprightPage, atFlatPage:
		return valleyFold
	}
	return noCrease
}

// readersOf returns the strips of a frame by the signs of their creases.
func readersOf(down int, forward int) map[string]string {
	strips := map[string]string{}
	for _, s := range stripsOf(down, forward) {
		strips[wantCreases(s)] = s
	}
	return strips
}

// signTexts returns every text of up to n full stops and letters m and v.
func signTexts(n int) []string {
	var texts []string
	for _, signs := range listsOf([]string{".", "m", "v"}, n) {
		texts = append(texts, strings.Join(signs, ""))
	}
	return texts
}

// numbersOutside returns numbers just outside of a range, and some far outside.
func numbersOutside(low int, high int) []int {
	numbers := slices.Concat(greatNumbers, []int{low - 2, low - 1, high + 1, high + 2, -high - 1, -high, 2*high + 2, low + 1<<8, high + 1<<16, low + 1<<32, high - 1<<32, math.MinInt + high, math.MaxInt - high})
	return slices.DeleteFunc(numbers, func(n int) bool { return n >= low && n <= high })
}

// turnedRound returns a text from its last byte to its first one.
func turnedRound(text string) string {
	letters := []byte(text)
	slices.Reverse(letters)
	return string(letters)
}

func checkCreaseAt(t *testing.T, c impl.Card, k int, i int, want int) {
	t.Helper()
	if got := impl.CreaseAt(c, k, i); got != want {
		t.Errorf("CreaseAt(%s, %d, %d) = %d, want %d", shortText(c), k, i, got, want)
	}
}

func checkCreaseText(t *testing.T, c impl.Card, k int, want string) {
	t.Helper()
	if got := impl.CreaseText(c, k); got != want {
		t.Errorf("CreaseText(%s, %d) = %q, want %q", shortText(c), k, got, want)
	}
}

func checkUncut(t *testing.T, c impl.Card, k int, want bool) {
	t.Helper()
	if got := impl.IsUncut(c, k); got != want {
		t.Errorf("IsUncut(%s, %d) = %v", shortText(c), k, got)
	}
}

func checkRead(t *testing.T, text string, down int, forward int, want string) {
	t.Helper()
	if got := impl.ReadCreases(text, down, forward); got != want {
		t.Errorf("ReadCreases(%.40q, %d, %d) = %q, want %q", text, down, forward, got, want)
	}
}

func checkNotRead(t *testing.T, down int, forward int, texts ...string) {
	t.Helper()
	for _, text := range texts {
		checkRead(t, text, down, forward, "")
	}
}

func checkCreaseCounts(t *testing.T, c impl.Card, mountains int, valleys int) {
	t.Helper()
	checkLeft(t, c, func(c impl.Card) {
		for range 2 {
			if m, v := impl.CountCreases(c); m != mountains || v != valleys {
				t.Errorf("CountCreases(%s) = %d, %d, want %d, %d", shortText(c), m, v, mountains, valleys)
			}
		}
	})
}

// checkSigns expects these signs for the creases of a strip of a valid card, and no creases beside them.
func checkSigns(t *testing.T, c impl.Card, k int, text string) {
	t.Helper()
	if len(text) != c.Down+c.Forward+1 {
		t.Fatalf("strip %d of %v has no creases %q", k, c, text)
	}
	checkLeft(t, c, func(c impl.Card) {
		checkCreaseText(t, c, k, text)
		for i := range len(text) {
			checkCreaseAt(t, c, k, i, strings.IndexByte(".mv", text[i]))
			checkCreaseAt(t, c, k, i, wantCrease(c.Strips[k], i))
		}
		for _, i := range numbersOutside(0, len(text)-1) {
			checkCreaseAt(t, c, k, i, noCrease)
		}
		checkCreaseText(t, c, k, text)
	})
}

// checkNoSigns expects no creases for an index at which a card has no strip, or for any index of a card that is not valid.
func checkNoSigns(t *testing.T, c impl.Card, indexes ...int) {
	t.Helper()
	checkLeft(t, c, func(c impl.Card) {
		for _, k := range indexes {
			checkCreaseText(t, c, k, "")
			checkUncut(t, c, k, false)
			for _, i := range []int{math.MinInt, -1, 0, 1, 2, 3, len(c.Strips), 2 * maxSteps, math.MaxInt} {
				checkCreaseAt(t, c, k, i, noCrease)
			}
		}
	})
}

// checkNeighbors expects that just the pairs of equal strips side by side are not cut.
func checkNeighbors(t *testing.T, c impl.Card) {
	t.Helper()
	last := len(c.Strips) - 1
	checkLeft(t, c, func(c impl.Card) {
		for k := range last {
			s, u := c.Strips[k], c.Strips[k+1]
			checkUncut(t, c, k, s == u)
			if cuts := impl.CutsBetween(s, u); (len(cuts) == 0) != impl.IsUncut(c, k) {
				t.Errorf("IsUncut(%v, %d) = %v, but the cuts are %d", c, k, impl.IsUncut(c, k), cuts)
			}
		}
		for _, k := range append(numbersOutside(0, last), last) {
			checkUncut(t, c, k, false)
		}
	})
}

// checkUncutPairs expects that just these of the strips of a valid card are not cut from the next ones.
func checkUncutPairs(t *testing.T, c impl.Card, uncut ...int) {
	t.Helper()
	for k := -2; k <= len(c.Strips)+2; k++ {
		checkUncut(t, c, k, slices.Contains(uncut, k))
	}
	checkNeighbors(t, c)
}

// checkTotals compares the creases of a valid card with the signs and the folds of its strips, and with those of the card from other sides.
func checkTotals(t *testing.T, c impl.Card) {
	t.Helper()
	signs, peaks, folds := "", 0, 0
	for _, s := range c.Strips {
		signs += wantCreases(s)
		peaks += impl.CountPeaks(s)
		folds += impl.CountFolds(s)
	}
	mountains, valleys := strings.Count(signs, "m"), strings.Count(signs, "v")
	// There is a valley before and behind each mountain, as a strip comes from a step down and leads to a step forward.
	if mountains != peaks || mountains+valleys != folds || valleys != mountains+len(c.Strips) {
		t.Errorf("%v has the signs %q, but %d peaks and %d folds", c, signs, peaks, folds)
	}
	for _, other := range []impl.Card{c, impl.TurnCard(c), impl.MirrorCard(c)} {
		checkCreaseCounts(t, other, mountains, valleys)
	}
}

// checkCreasedCard compares all creases of a valid card with the ways of its strips, and reads its strips from them.
func checkCreasedCard(t *testing.T, c impl.Card) {
	t.Helper()
	for k, s := range c.Strips {
		checkSigns(t, c, k, wantCreases(s))
		checkRead(t, impl.CreaseText(c, k), c.Down, c.Forward, s)
	}
	checkNoSigns(t, c, numbersOutside(0, len(c.Strips)-1)...)
	checkTotals(t, c)
	checkNeighbors(t, c)
}

// checkNotCreased expects that every function of the chapter rejects a card that is not valid.
func checkNotCreased(t *testing.T, c impl.Card) {
	t.Helper()
	n := len(c.Strips)
	checkNoSigns(t, c, math.MinInt, -2, -1, 0, 1, 2, n/2, n-2, n-1, n, n+1, math.MaxInt)
	checkCreaseCounts(t, c, 0, 0)
}

// checkCreasesAre expects these signs of a strip alone, the same from the other end for the turned strip, and that it is read from them for no other frame.
func checkCreasesAre(t *testing.T, s string, text string) {
	t.Helper()
	down, forward := strings.Count(s, "d"), strings.Count(s, "f")
	checkSigns(t, cardOf(down, forward, s), 0, text)
	checkSigns(t, cardOf(forward, down, wantTurned(s)), 0, turnedRound(text))
	for otherDown := -1; otherDown <= maxSteps+2; otherDown++ {
		for otherForward := -1; otherForward <= maxSteps+2; otherForward++ {
			want := ""
			if otherDown == down && otherForward == forward {
				want = s
			}
			checkRead(t, text, otherDown, otherForward, want)
		}
	}
	checkRead(t, turnedRound(text), forward, down, wantTurned(s))
	checkCreaseCounts(t, cardOf(down, forward, s), strings.Count(text, "m"), strings.Count(text, "v"))
}

func checkCreases(t *testing.T, s string) {
	t.Helper()
	checkCreasesAre(t, s, wantCreases(s))
}

// checkNoCreases expects that a text that is no strip has no creases, and is not read from those that it would have.
func checkNoCreases(t *testing.T, s string) {
	t.Helper()
	down, forward := strings.Count(s, "d"), strings.Count(s, "f")
	checkNotCreased(t, cardOf(down, forward, s))
	checkNotCreased(t, cardOf(max(down, 1), max(forward, 1), s))
	checkNotCreased(t, cardOf(1, 1, "df", s))
	if strings.Trim(s, "df") == "" && len(s) <= 4*maxSteps {
		checkNotRead(t, down, forward, wantCreases(s), s)
	}
}

func TestCreaseKinds(t *testing.T) {
	if impl.CrNone != noCrease || impl.CrMountain != mountainFold || impl.CrValley != valleyFold {
		t.Errorf("CrNone, CrMountain, CrValley = %d, %d, %d", impl.CrNone, impl.CrMountain, impl.CrValley)
	}
}

func TestCreasesOfAllShortWords(t *testing.T) {
	checkWords(t, 9, checkCreases, checkNoCreases)
}

func TestCreasesOfStripsOfEveryFrame(t *testing.T) {
	for _, s := range stripsOfEveryFrame() {
		checkCreases(t, s)
	}
}

func TestEveryStripIsReadFromItsCreases(t *testing.T) {
	for _, frame := range allFrames() {
		down, forward := frame[0], frame[1]
		texts := map[string]bool{}
		for _, s := range stripsOf(down, forward) {
			text := impl.CreaseText(cardOf(down, forward, s), 0)
			if text != wantCreases(s) || texts[text] {
				t.Errorf("CreaseText of %q is %q, want %q, which no other strip has", s, text, wantCreases(s))
			}
			texts[text] = true
			checkRead(t, text, down, forward, s)
			if down != forward {
				checkRead(t, text, forward, down, "")
			}
		}
	}
}

func TestCreasesAtBothPages(t *testing.T) {
	// From a step down to a step forward there are none.
	checkCreasesAre(t, "df", ".v.")
	checkCreasesAre(t, "ddff", "..v..")
	checkCreasesAre(t, "dfdf", ".vmv.")
	checkCreasesAre(t, "dffddf", ".v.m.v.")
	// From a step down to a step down.
	checkCreasesAre(t, "dfd", ".vmv")
	checkCreasesAre(t, "dffd", ".v.mv")
	checkCreasesAre(t, "ddfddd", "..vm..v")
	checkCreasesAre(t, "dfdfd", ".vmvmv")
	// From a step forward to a step forward.
	checkCreasesAre(t, "fdf", "vmv.")
	checkCreasesAre(t, "fddf", "vm.v.")
	checkCreasesAre(t, "fffdff", "v..mv..")
	checkCreasesAre(t, "fdfdf", "vmvmv.")
	// From a step forward to a step down.
	checkCreasesAre(t, "fd", "vmv")
	checkCreasesAre(t, "ffdd", "v.m.v")
	checkCreasesAre(t, "fdfd", "vmvmv")
	checkCreasesAre(t, "fddffd", "vm.v.mv")
	c := cardOf(2, 2, "ddff", "dffd", "fddf", "ffdd")
	for k, text := range []string{"..v..", ".v.mv", "vm.v.", "v.m.v"} {
		checkSigns(t, c, k, text)
		for _, i := range []int{0, 1, 3, 4} {
			checkCreaseAt(t, c, k, i, strings.Index(".mv", text[i:i+1]))
		}
	}
}

func TestCreasesOfFlatAndHighStrips(t *testing.T) {
	for _, frame := range allFrames() {
		down, forward := frame[0], frame[1]
		checkCreasesAre(t, impl.FlatStrip(down, forward), strings.Repeat(".", down)+"v"+strings.Repeat(".", forward))
		checkCreasesAre(t, impl.HighStrip(down, forward), "v"+strings.Repeat(".", forward-1)+"m"+strings.Repeat(".", down-1)+"v")
	}
}

func TestCreasesOfStripsThatTurnAtEveryStep(t *testing.T) {
	for n := 1; n <= maxSteps; n++ {
		checkCreasesAre(t, strings.Repeat("fd", n), strings.Repeat("vm", n)+"v")
		checkCreasesAre(t, strings.Repeat("df", n), "."+strings.Repeat("vm", n-1)+"v.")
		if n < maxSteps {
			checkCreasesAre(t, strings.Repeat("fd", n)+"f", strings.Repeat("vm", n)+"v.")
			checkCreasesAre(t, strings.Repeat("df", n)+"d", "."+strings.Repeat("vm", n)+"v")
		}
	}
}

func TestCreasesOfSomeStrips(t *testing.T) {
	// With several steps of one kind one after the other.
	checkCreasesAre(t, "dddffffdd", "...v...m.v")
	checkCreasesAre(t, "ffddddfffdd", "v.m...v..m.v")
	checkCreasesAre(t, "ddfffdfddd", "..v..mvm..v")
	checkCreasesAre(t, "fffdddfffddd", "v..m..v..m..v")
	checkCreasesAre(t, "dfdffdf", ".vmv.mv.")
	checkCreasesAre(t, "ffddffd", "v.m.v.mv")
	checkCreasesAre(t, "ddffffdddddffffd", "..v...m....v...mv")
	// With one step of a kind, and the greatest number of the other one.
	checkCreasesAre(t, "fdddddddd", "vm.......v")
	checkCreasesAre(t, "dddfddddd", "...vm....v")
	checkCreasesAre(t, "dddddddfd", ".......vmv")
	checkCreasesAre(t, "ddddddddf", "........v.")
	checkCreasesAre(t, "dffffffff", ".v........")
	checkCreasesAre(t, "fdfffffff", "vmv.......")
	checkCreasesAre(t, "fffffdfff", "v....mv...")
	checkCreasesAre(t, "ffffffffd", "v.......mv")
}

func TestCreasesAlternate(t *testing.T) {
	for _, s := range stripsOfEveryFrame() {
		text := impl.CreaseText(cardOf(strings.Count(s, "d"), strings.Count(s, "f"), s), 0)
		creases := strings.ReplaceAll(text, ".", "")
		if want := strings.Repeat("vm", len(s))[:len(creases)]; creases != want || !strings.HasSuffix(creases, "v") {
			t.Errorf("%q has the creases %q, which do not alternate from valley to valley", s, text)
		}
		if len(creases) != impl.CountFolds(s) {
			t.Errorf("%q has the creases %q, but %d folds", s, text, impl.CountFolds(s))
		}
	}
}

func TestASquareThatIsAddedMovesCreases(t *testing.T) {
	for _, s := range slices.Concat(stripsOf(3, 4), stripsOf(5, 2), stripsOf(1, maxSteps), stripsOf(maxSteps, 1), someStrips(maxSteps, maxSteps, 337)) {
		c := cardOf(strings.Count(s, "d"), strings.Count(s, "f"), s)
		for _, k := range impl.RaisesOf(s) {
			raised, _ := impl.AddBox(c, boxOf(0, 0, k))
			before, after := impl.CreaseText(c, 0), impl.CreaseText(raised, 0)
			// The valley becomes a mountain. There is a valley at each side of it instead of a mountain or of none.
			sides := strings.NewReplacer(".", "v", "m", ".")
			want := before[:k-1] + sides.Replace(before[k-1:k]) + "m" + sides.Replace(before[k+1:k+2]) + before[k+2:]
			if after != want {
				t.Errorf("%q has the creases %q, and raised at %d %q, want %q", s, before, k, after, want)
			}
		}
	}
}

func TestOtherTextsHaveNoCreases(t *testing.T) {
	for _, s := range append(otherTexts(), textsWithOtherBytes()...) {
		checkNoCreases(t, s)
	}
}

func TestAllShortSignTextsAreRead(t *testing.T) {
	texts := signTexts(8)
	for down := range maxSteps + 2 {
		for forward := range maxSteps + 2 {
			strips := map[string]string{}
			if down > 0 && down <= maxSteps && forward > 0 && forward <= maxSteps {
				strips = readersOf(down, forward)
			}
			read := 0
			for _, text := range texts {
				checkRead(t, text, down, forward, strips[text])
				if strips[text] != "" {
					read++
				}
			}
			if down+forward <= 7 && read != len(strips) {
				t.Errorf("%d of %d strips of %d and %d are read", read, len(strips), down, forward)
			}
		}
	}
}

func TestSignsThatAreChanged(t *testing.T) {
	// The last signs would be right ones if they were narrowed to one byte.
	wrong := []string{".", "m", "v", "M", "V", "d", "f", " ", ",", "-", "x", "0", "\x00", "\xff", "\n", "é", "\u012e", "\u016d", "\u0176"}
	for _, s := range stripsOfEveryFrame() {
		down, forward := strings.Count(s, "d"), strings.Count(s, "f")
		text := wantCreases(s)
		checkRead(t, text, down, forward, s)
		for i := range len(text) {
			for _, sign := range wrong {
				// With one crease more or less, the strip would not lead to a step forward. With a crease of the other kind, it would be the same strip.
				if sign != text[i:i+1] {
					checkRead(t, text[:i]+sign+text[i+1:], down, forward, "")
				}
			}
			checkRead(t, text[:i]+text[i+1:], down, forward, "")
		}
		for i := range len(text) + 1 {
			for _, sign := range []string{".", "m", "v", " ", "\u012e"} {
				checkRead(t, text[:i]+sign+text[i:], down, forward, "")
			}
		}
		checkNotRead(t, down, forward, strings.ToUpper(text), strings.ReplaceAll(text, "v", "V"), text+text, s, text+strings.Repeat(".", 256))
	}
}

func TestEveryByteAsASign(t *testing.T) {
	for i := range 256 {
		sign := string([]byte{byte(i)})
		for _, one := range []struct{ s, text string }{{"df", ".v."}, {"fd", "vmv"}, {"ddff", "..v.."}, {"dfdf", ".vmv."}, {"fddf", "vm.v."}, {"ffdd", "v.m.v"}} {
			n := len(one.s) / 2
			for at := range len(one.text) {
				want := ""
				if sign == one.text[at:at+1] {
					want = one.s
				}
				checkRead(t, one.text[:at]+sign+one.text[at+1:], n, n, want)
			}
			checkNotRead(t, n, n, one.text+sign, sign+one.text, strings.Repeat(sign, len(one.text)))
		}
	}
}

func TestTwoSignsThatAreChanged(t *testing.T) {
	for _, frame := range [][2]int{{4, 4}, {3, 6}, {7, 2}, {1, maxSteps}, {maxSteps, 1}, {maxSteps, maxSteps}} {
		strips := readersOf(frame[0], frame[1])
		for _, s := range someStrips(frame[0], frame[1], 1+len(strips)/20) {
			text := []byte(wantCreases(s))
			for i := range text {
				for j := range i {
					for _, first := range []byte(".mv") {
						for _, second := range []byte(".mv") {
							changed := slices.Clone(text)
							changed[i], changed[j] = first, second
							checkRead(t, string(changed), frame[0], frame[1], strips[string(changed)])
						}
					}
				}
			}
		}
	}
}

func TestSignsOfNoStrip(t *testing.T) {
	checkNotRead(t, 1, 1, "", ".", "v", "..", ".v", "v.", "vm", "...", "..v", "v..", "vvv", "mmm", ".m.", "m.v", "v.m", ".mv", "vm.", "mvm", "v.v", ".v..", "..v.", "vmv.", ".vmv", "....")
	// A mountain at the first or at the last place.
	checkNotRead(t, 2, 2, "m.v.m", "mvmvm", "m....", "....m", "mvmv.", ".vmvm", "m.v..", "..v.m", "..m..", "m.m.m", "v.m.m", "m.m.v")
	// A valley at an end, and the rest is right without it.
	checkNotRead(t, 2, 2, "v.v..", "..v.v", "v.v.v", "vvmv.", ".vmvv", "vvmvv", "v.v.v", "v...v", "v....", "....v")
	// No valley at an end, and the rest is right with it.
	checkNotRead(t, 2, 2, "..m.v", "v.m..", "..m..", ".mv..", ".m.v.", ".v.m.", "..vm.", ".mvmv", "vmvm.", ".mvm.")
	// Two mountains or two valleys with no other crease between them.
	checkNotRead(t, 3, 3, "vmmv...", "vm.m.v.", "..vv...", ".v.v...", ".v...v.", "v.mm..v", "v.m.m.v", "vmvv...", "vmv..v.", ".vvmv..", ".vmmv..", ".vm.mv.", "vmvmvv.", "v..m..m")
	// All full stops, all mountains, all valleys.
	for _, frame := range allFrames() {
		for _, sign := range []string{".", "m", "v"} {
			checkNotRead(t, frame[0], frame[1], strings.Repeat(sign, frame[0]+frame[1]+1), strings.Repeat(sign, frame[0]+frame[1]), strings.Repeat(sign, frame[0]+frame[1]+2))
		}
		checkNotRead(t, frame[0], frame[1], "", strings.Repeat(".", 100000), strings.Repeat("vm", 50000), strings.Repeat("vm", 50000)+"v")
	}
}

func TestCreasesOfOtherFrames(t *testing.T) {
	checkRead(t, ".vmv.", 2, 2, "dfdf")
	checkNotRead(t, 3, 1, ".vmv.")
	checkNotRead(t, 1, 3, ".vmv.")
	// Down and Forward exchanged.
	checkRead(t, ".v...", 1, 3, "dfff")
	checkRead(t, ".v...", 3, 1, "")
	checkRead(t, "...v.", 3, 1, "dddf")
	checkRead(t, "...v.", 1, 3, "")
	checkRead(t, "vm..v", 3, 1, "fddd")
	checkRead(t, "vm..v", 1, 3, "")
	checkRead(t, "v..mv", 1, 3, "fffd")
	checkRead(t, "v..mv", 3, 1, "")
	// Steps of one kind alone, and one step more than there can be.
	for n := 1; n <= maxSteps+2; n++ {
		for _, s := range []string{strings.Repeat("d", n), strings.Repeat("f", n)} {
			for more := -1; more <= 1; more++ {
				checkNotRead(t, n, more, wantCreases(s))
				checkNotRead(t, more, n, wantCreases(s))
			}
		}
	}
	for forward := range maxSteps + 2 {
		d, f := strings.Repeat("d", maxSteps+1), strings.Repeat("f", forward)
		checkNotRead(t, maxSteps+1, forward, wantCreases(d+f), wantCreases(f+d), wantCreases("d"+f+d[1:]))
		checkNotRead(t, maxSteps, forward+1, wantCreases(d+f), wantCreases(f+d))
		d, f = strings.Repeat("d", forward), strings.Repeat("f", maxSteps+1)
		checkNotRead(t, forward, maxSteps+1, wantCreases(d+f), wantCreases(f+d), wantCreases("f"+d+f[1:]))
		checkNotRead(t, forward+1, maxSteps, wantCreases(d+f), wantCreases(f+d))
	}
}

func TestGreatNumbersForTheFrameOfCreases(t *testing.T) {
	texts := []string{"", ".", "v", "m", "..", ".v", "v.", ".v.", "vmv", "..v", ".v..", "..v.", ".vmv.", "v.m.v", wantCreases(impl.FlatStrip(maxSteps, maxSteps)), wantCreases(impl.HighStrip(maxSteps, maxSteps)), strings.Repeat(".", 255) + "v."}
	numbers := numbersOutside(1, maxSteps)
	for _, n := range numbers {
		for other := -1; other <= maxSteps+1; other++ {
			checkNotRead(t, n, other, texts...)
			checkNotRead(t, other, n, texts...)
		}
		// Some of these sums are those of frames, or wrap around to them.
		for _, other := range slices.Concat(numbers, []int{-n, 1 - n, 2 - n, 4 - n, 2*maxSteps - n}) {
			checkNotRead(t, n, other, texts...)
		}
	}
}

func TestCreasesOfAllSmallCards(t *testing.T) {
	for _, c := range smallCards() {
		checkCreasedCard(t, c)
	}
}

func TestCreasesOfEveryFrameAndNumberOfStrips(t *testing.T) {
	for _, frame := range allFrames() {
		down, forward := frame[0], frame[1]
		flat, high := impl.FlatStrip(down, forward), impl.HighStrip(down, forward)
		for n := 1; n <= maxStrips; n++ {
			checkCreasedCard(t, mixedCard(down, forward, n))
			checkCreaseCounts(t, cardOf(down, forward, slices.Repeat([]string{flat}, n)...), 0, n)
			checkCreaseCounts(t, cardOf(down, forward, slices.Repeat([]string{high}, n)...), n, 2*n)
			checkCreasedCard(t, cardOf(down, forward, slices.Repeat([]string{high, flat, flat}, n)[:n]...))
		}
	}
}

func TestCountedCreases(t *testing.T) {
	checkCreaseCounts(t, cardOf(1, 1, "df"), 0, 1)
	checkCreaseCounts(t, cardOf(1, 1, "fd"), 1, 2)
	checkCreaseCounts(t, cardOf(1, 1, "fd", "df"), 1, 3)
	checkCreaseCounts(t, cardOf(2, 2, "ddff", "dfdf", "dfdf"), 2, 5)
	checkCreaseCounts(t, cardOf(2, 2, "ddff", "dffd", "fddf", "ffdd"), 3, 7)
	checkCreaseCounts(t, cardOf(3, 2, "dfdfd", "dddff"), 2, 4)
	checkCreaseCounts(t, impl.SampleCard(), 6, 11)
	for n := 1; n <= maxStrips; n++ {
		checkCreaseCounts(t, cardOf(maxSteps, maxSteps, slices.Repeat([]string{strings.Repeat("fd", maxSteps)}, n)...), maxSteps*n, (maxSteps+1)*n)
		checkCreaseCounts(t, cardOf(maxSteps, maxSteps, slices.Repeat([]string{strings.Repeat("df", maxSteps)}, n)...), (maxSteps-1)*n, maxSteps*n)
		// One strip has more creases than the others.
		for k := range n {
			strips := slices.Repeat([]string{"ddff"}, n)
			strips[k] = "fdfd"
			checkCreaseCounts(t, cardOf(2, 2, strips...), 2, 3+n-1)
			checkCreasedCard(t, cardOf(2, 2, strips...))
		}
	}
}

func TestStripsThatAreNotCutApart(t *testing.T) {
	// Strips that differ from the first, in the middle, to the last step or at both ends.
	checkUncutPairs(t, cardOf(3, 3, "dfdfdf", "fddfdf"))
	checkUncutPairs(t, cardOf(3, 3, "dfdfdf", "dffddf"))
	checkUncutPairs(t, cardOf(3, 3, "dfdfdf", "dfdffd"))
	checkUncutPairs(t, cardOf(3, 3, "dfdfdf", "dfddff"))
	checkUncutPairs(t, cardOf(3, 3, "dfdfdf", "fddffd"))
	checkUncutPairs(t, cardOf(3, 3, "dddfff", "fddffd"))
	checkUncutPairs(t, cardOf(3, 3, "dfdfdf", "dfdfdf"), 0)
	// Equal strips that are not side by side.
	checkUncutPairs(t, cardOf(2, 2, "dfdf", "ddff", "dfdf"))
	checkUncutPairs(t, cardOf(2, 2, "dfdf", "ddff", "ffdd", "dfdf"))
	checkUncutPairs(t, cardOf(2, 2, "dfdf", "ddff", "dfdf", "ddff"))
	checkUncutPairs(t, cardOf(2, 2, "dfdf", "dfdf", "ddff", "dfdf", "dfdf"), 0, 3)
	checkUncutPairs(t, cardOf(2, 2, "dfdf", "ddff", "ddff", "dfdf"), 1)
	// Strips that are equal if they are turned, or if they are read from the other end.
	checkUncutPairs(t, cardOf(2, 2, "dffd", "fddf"))
	checkUncutPairs(t, cardOf(2, 2, "ddff", "ffdd"))
	checkUncutPairs(t, cardOf(1, 1, "df", "fd"))
	// The same creases lie at other places.
	checkUncutPairs(t, cardOf(3, 1, "dfdd", "ddfd"))
	checkUncutPairs(t, cardOf(2, 2, "ddff", "dfdf", "dfdf"), 1)
	checkUncutPairs(t, impl.SampleCard(), 1)
	checkUncutPairs(t, cardOf(maxSteps, maxSteps, impl.HighStrip(maxSteps, maxSteps)))
	checkUncutPairs(t, impl.Card{})
	checkUncut(t, impl.Card{Strips: []string{"", ""}}, 0, false)
	checkUncut(t, cardOf(2, 2, "", ""), 0, false)
	checkUncut(t, cardOf(2, 2, "df", "df"), 0, false)
	checkUncut(t, cardOf(2, 2, "ddff", "ddff", "df"), 0, false)
}

func TestOneStripThatIsCutFromItsNeighbors(t *testing.T) {
	for n := 1; n <= maxStrips; n++ {
		var all []int
		for k := range n - 1 {
			all = append(all, k)
		}
		checkUncutPairs(t, cardOf(4, 4, slices.Repeat([]string{"dfdfdfdf"}, n)...), all...)
		for k := range n {
			for _, other := range []string{"fddfdfdf", "dfdffddf", "dfdfdffd", "ffffdddd"} {
				strips := slices.Repeat([]string{"dfdfdfdf"}, n)
				strips[k] = other
				uncut := slices.DeleteFunc(slices.Clone(all), func(i int) bool { return i == k || i+1 == k })
				checkUncutPairs(t, cardOf(4, 4, strips...), uncut...)
			}
		}
	}
}

func TestNeighborsOfAllSmallStrips(t *testing.T) {
	for _, strips := range [][]string{stripsOf(3, 3), stripsOf(2, 5), stripsOf(5, 2), stripsOf(1, maxSteps), stripsOf(maxSteps, 1), someStrips(maxSteps, maxSteps, 337)} {
		for _, s := range strips {
			for _, u := range strips {
				c := cardOf(strings.Count(s, "d"), strings.Count(s, "f"), s, u)
				checkUncut(t, c, 0, s == u)
				if same := impl.CreaseText(c, 0) == impl.CreaseText(c, 1); same != (s == u) {
					t.Errorf("%q and %q have the creases %q and %q", s, u, impl.CreaseText(c, 0), impl.CreaseText(c, 1))
				}
			}
		}
	}
}

func TestInvalidCardsHaveNoCreases(t *testing.T) {
	for _, c := range allInvalidCards() {
		checkNotCreased(t, c)
	}
}
