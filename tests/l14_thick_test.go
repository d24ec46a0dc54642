package tests

import (
	"math"
	"slices"
	"strings"
	"testing"

	"loop.example/g03305/impl"
)

const maxSheet = 1000

// wantLayers counts, for each part of the page, the steps that have one end at its left end and the other end at its right one.
func wantLayers(s string) []int {
	points := walkOf(s, 0)
	var layers []int
	for x := range len(s) {
		count := 0
		for k := range len(s) {
			left, right := endsOf(points[k : k+2])
			if left == x && right == x+1 {
				count++
			}
		}
		layers = append(layers, count)
	}
	return layers
}

// layersOfSquares counts the steps by the squares under a strip: each one of them lies at the end of a column or of a row of squares.
func layersOfSquares(s string) []int {
	layers := make([]int, len(s))
	for x, height := range wantHeights(s) {
		layers[x+height]++
	}
	depths := wantDepths(s)
	slices.Reverse(depths)
	for y, depth := range depths {
		layers[y+depth]++
	}
	return layers
}

func zerosOf(numbers []int) int {
	zeros := 0
	for _, n := range numbers {
		if n == 0 {
			zeros++
		}
	}
	return zeros
}

// wantThickest returns the greatest number of layers of all strips of a valid card.
func wantThickest(c impl.Card) int {
	thickest := 0
	for _, s := range c.Strips {
		thickest = max(thickest, slices.Max(wantLayers(s)))
	}
	return thickest
}

// checkNumbers expects this greatest number of layers and this number of free parts of the page.
func checkNumbers(t *testing.T, s string, thickest int, free int) {
	t.Helper()
	for range 2 {
		if got := impl.ThickestOf(s); got != thickest {
			t.Errorf("ThickestOf(%.40q) = %d, want %d", s, got, thickest)
		}
		if got := impl.FreePart(s); got != free {
			t.Errorf("FreePart(%.40q) = %d, want %d", s, got, free)
		}
	}
}

// checkLayersOf expects these layers of a text, in memory of their own.
func checkLayersOf(t *testing.T, s string, want []int) {
	t.Helper()
	// The lists of the first round are overwritten, which the second one must not see.
	for range 2 {
		got, again := impl.LayersOf(s), impl.LayersOf(s)
		if !slices.Equal(got, want) || !slices.Equal(again, want) {
			t.Errorf("LayersOf(%.40q) = %d and %d, want %d", s, got, again, want)
		}
		overwriteApart(t, [][]int{got, again})
	}
}

// checkLayersAre expects these layers of a strip and of the turned one.
func checkLayersAre(t *testing.T, s string, layers ...int) {
	t.Helper()
	for _, strip := range []string{s, wantTurned(s)} {
		checkLayersOf(t, strip, layers)
		checkNumbers(t, strip, slices.Max(layers), zerosOf(layers))
	}
	checkPromisedLayers(t, s)
}

// checkPromisedLayers expects that the layers of a strip are all its steps, and the same from both pages.
func checkPromisedLayers(t *testing.T, s string) {
	t.Helper()
	layers, turned := impl.LayersOf(s), impl.LayersOf(impl.TurnStrip(s))
	if len(layers) != len(s) || sumOf(layers) != len(s) {
		t.Errorf("LayersOf(%q) = %d, which are not %d steps", s, layers, len(s))
	}
	if !slices.Equal(layers, turned) {
		t.Errorf("LayersOf(%q) = %d, and those of the turned strip are %d", s, layers, turned)
	}
	checkNumbers(t, s, slices.Max(layers), zerosOf(layers))
	checkCovered(t, s, layers)
}

// checkCovered expects layers on all parts of the page that a strip reaches, and an odd number of them just on the parts between its ends.
func checkCovered(t *testing.T, s string, layers []int) {
	t.Helper()
	down, forward := strings.Count(s, "d"), strings.Count(s, "f")
	least, greatest := endsOf(walkOf(s, 0))
	for x, n := range layers {
		if (n > 0) != (x >= least && x < greatest) {
			t.Errorf("LayersOf(%q) = %d, but the strip reaches from %d to %d", s, layers, least, greatest)
		}
		if between := x >= min(down, forward) && x < max(down, forward); (n%2 == 1) != between {
			t.Errorf("LayersOf(%q) = %d, which leads not from %d to %d", s, layers, down, forward)
		}
	}
	checkReach(t, s, greatest)
}

// checkLayers compares the layers of a strip with the ends of its steps and with the squares under it.
func checkLayers(t *testing.T, s string) {
	t.Helper()
	layers := wantLayers(s)
	checkLayersAre(t, s, layers...)
	checkLayersOf(t, s, layersOfSquares(s))
}

func checkNoLayers(t *testing.T, s string) {
	t.Helper()
	checkLayersOf(t, s, nil)
	checkNumbers(t, s, -1, -1)
}

func checkThickness(t *testing.T, c impl.Card, sheet int, want int) {
	t.Helper()
	checkLeft(t, c, func(c impl.Card) {
		for range 2 {
			if got := impl.Thickness(c, sheet); got != want {
				t.Errorf("Thickness(%s, %d) = %d, want %d", shortText(c), sheet, got, want)
			}
		}
	})
}

// wrongSheets returns numbers just outside of the range of sheets, and some far outside.
func wrongSheets() []int {
	numbers := append([]int{-maxSheet - 1, -maxSheet, -999, -10, -2, -1, 0, maxSheet + 1, maxSheet + 2, 10000, 1<<16 + 1, math.MinInt + 10, -1<<32 + 10, 1<<32 + maxSheet}, greatNumbers...)
	return slices.DeleteFunc(numbers, func(n int) bool { return n >= 1 && n <= maxSheet })
}

// checkNoThickness expects that a card is rejected for these sheets.
func checkNoThickness(t *testing.T, c impl.Card, sheets ...int) {
	t.Helper()
	for _, sheet := range sheets {
		checkThickness(t, c, sheet, -1)
	}
}

// checkThicknessIs expects so many layers at the thickest place of a valid card, beside both pages.
func checkThicknessIs(t *testing.T, c impl.Card, thickest int) {
	t.Helper()
	for _, sheet := range []int{1, 2, 3, 10, 255, 256, 257, 500, maxSheet - 1, maxSheet} {
		checkThickness(t, c, sheet, thickest*sheet+2*sheet)
	}
	checkNoThickness(t, c, -1, 0, maxSheet+1, math.MinInt, math.MaxInt)
}

// checkClosedIs expects these layers of the strips of a valid card, and this number of them at its thickest place.
func checkClosedIs(t *testing.T, c impl.Card, thickest int, layers ...[]int) {
	t.Helper()
	checkTables(t, c, table{"LayerTable", impl.LayerTable, layers})
	checkThicknessIs(t, c, thickest)
	checkPromisedTable(t, c)
}

// checkPromisedTable expects that the table of a valid card has all its steps, and is the same from both pages.
func checkPromisedTable(t *testing.T, c impl.Card) {
	t.Helper()
	rows := impl.LayerTable(c)
	if got := sumOf(slices.Concat(rows...)); got != len(c.Strips)*(c.Down+c.Forward) {
		t.Errorf("LayerTable(%v) = %d, which are %d steps", c, rows, got)
	}
	mirrored := slices.Clone(rows)
	slices.Reverse(mirrored)
	turned := impl.TurnCard(c)
	checkTables(t, turned, table{"LayerTable", impl.LayerTable, rows})
	checkTables(t, impl.MirrorCard(c), table{"LayerTable", impl.LayerTable, mirrored})
	for _, sheet := range []int{1, maxSheet} {
		checkThickness(t, turned, sheet, impl.Thickness(c, sheet))
		checkThickness(t, impl.MirrorCard(c), sheet, impl.Thickness(c, sheet))
	}
}

// checkClosed compares the layers of a valid card with the ends of the steps of its strips.
func checkClosed(t *testing.T, c impl.Card) {
	t.Helper()
	var layers [][]int
	for _, s := range c.Strips {
		layers = append(layers, wantLayers(s))
	}
	checkClosedIs(t, c, wantThickest(c), layers...)
}

// checkNotClosed expects that a card is rejected, with a sheet that is right and with others.
func checkNotClosed(t *testing.T, c impl.Card) {
	t.Helper()
	checkTables(t, c, table{"LayerTable", impl.LayerTable, nil})
	checkNoThickness(t, c, 1, 2, 10, maxSheet-1, maxSheet)
	checkNoThickness(t, c, wrongSheets()...)
}

func TestLayersOfAllShortWords(t *testing.T) {
	checkWords(t, 10, checkLayers, checkNoLayers)
}

func TestLayersOfStripsOfEveryFrame(t *testing.T) {
	for _, s := range stripsOfEveryFrame() {
		checkLayers(t, s)
	}
}

func TestLayersAreAllSteps(t *testing.T) {
	for _, frame := range allFrames() {
		strips := stripsOf(frame[0], frame[1])
		sums := make([]int, frame[0]+frame[1])
		for _, s := range strips {
			layers := impl.LayersOf(s)
			if sumOf(layers) != len(s) || !slices.Equal(layers, impl.LayersOf(impl.TurnStrip(s))) {
				t.Errorf("LayersOf(%q) = %d, and those of the turned strip are %d", s, layers, impl.LayersOf(impl.TurnStrip(s)))
			}
			for x, n := range layers {
				sums[x] += n
			}
		}
		if got := sumOf(sums); got != len(strips)*(frame[0]+frame[1]) {
			t.Errorf("all strips of %d have %d layers, want %d", frame, got, len(strips)*(frame[0]+frame[1]))
		}
	}
}

func TestFlatStripsLieAtTheFoldAndHighStripsFarFromIt(t *testing.T) {
	for _, frame := range allFrames() {
		down, forward := frame[0], frame[1]
		shorter, longer := min(down, forward), max(down, forward)
		twice, once := slices.Repeat([]int{2}, shorter), slices.Repeat([]int{1}, longer-shorter)
		free := make([]int, shorter)
		checkLayersAre(t, impl.FlatStrip(down, forward), slices.Concat(twice, once, free)...)
		checkLayersAre(t, impl.HighStrip(down, forward), slices.Concat(free, once, twice)...)
		checkNumbers(t, impl.FlatStrip(down, forward), 2, shorter)
		checkNumbers(t, impl.HighStrip(down, forward), 2, shorter)
	}
}

func TestLayersOfSmallFrames(t *testing.T) {
	checkLayersAre(t, "df", 2, 0)
	checkLayersAre(t, "fd", 0, 2)
	checkLayersAre(t, "ddf", 2, 1, 0)
	checkLayersAre(t, "dfd", 0, 3, 0)
	checkLayersAre(t, "fdd", 0, 1, 2)
	checkLayersAre(t, "dff", 2, 1, 0)
	checkLayersAre(t, "fdf", 0, 3, 0)
	checkLayersAre(t, "ffd", 0, 1, 2)
	checkLayersAre(t, "ddff", 2, 2, 0, 0)
	checkLayersAre(t, "dfdf", 0, 4, 0, 0)
	checkLayersAre(t, "dffd", 0, 2, 2, 0)
	checkLayersAre(t, "fddf", 0, 2, 2, 0)
	checkLayersAre(t, "fdfd", 0, 0, 4, 0)
	checkLayersAre(t, "ffdd", 0, 0, 2, 2)
}

func TestLayersOfStripsThatGoToAndFro(t *testing.T) {
	// Step by step, at the left end of the page, in the middle of it and at its right end.
	checkLayersAre(t, "dddfdfdfff", 0, 0, 6, 2, 2, 0, 0, 0, 0, 0)
	checkLayersAre(t, "ddddfdfff", 0, 4, 2, 2, 1, 0, 0, 0, 0)
	checkLayersAre(t, "dddfdfff", 0, 4, 2, 2, 0, 0, 0, 0)
	checkLayersAre(t, "dfdfdfdf", 0, 0, 0, 8, 0, 0, 0, 0)
	checkLayersAre(t, "fdfdfdfd", 0, 0, 0, 0, 8, 0, 0, 0)
	checkLayersAre(t, "fffdfddd", 0, 0, 0, 0, 2, 2, 4, 0)
	checkLayersAre(t, "ffffdfddfd", 0, 0, 0, 0, 1, 1, 4, 4, 0, 0)
	// By several steps at once.
	checkLayersAre(t, "ddffddff", 0, 0, 4, 4, 0, 0, 0, 0)
	checkLayersAre(t, "ffddffdd", 0, 0, 0, 0, 4, 4, 0, 0)
	checkLayersAre(t, "dddfffdddfff", 0, 0, 0, 4, 4, 4, 0, 0, 0, 0, 0, 0)
	checkLayersAre(t, "ddddffffddddffff", 0, 0, 0, 0, 4, 4, 4, 4, 0, 0, 0, 0, 0, 0, 0, 0)
	checkLayersAre(t, "dddddffddfff", 0, 0, 4, 4, 2, 1, 1, 0, 0, 0, 0, 0)
	checkLayersAre(t, "ddffdddffdff", 0, 0, 0, 2, 6, 4, 0, 0, 0, 0, 0, 0)
	// Across the whole page, from one end to the other.
	checkLayersAre(t, "dddddddffffffffd", 0, 2, 2, 2, 2, 2, 2, 2, 2, 0, 0, 0, 0, 0, 0, 0)
	checkLayersAre(t, "dffffffffddddddd", 0, 0, 0, 0, 0, 0, 0, 2, 2, 2, 2, 2, 2, 2, 2, 0)
	checkLayersAre(t, "ffddddffddddffff", 0, 0, 0, 0, 2, 2, 4, 4, 2, 2, 0, 0, 0, 0, 0, 0)
	// By steps of different numbers.
	checkLayersAre(t, "fddfffdd", 0, 0, 0, 2, 4, 2, 0, 0)
	checkLayersAre(t, "fddfdfdff", 0, 0, 0, 6, 3, 0, 0, 0, 0)
	checkLayersAre(t, "ffdfdfdd", 0, 0, 0, 0, 2, 6, 0, 0)
}

func TestLayersOfFramesThatAreNotSquare(t *testing.T) {
	checkLayersAre(t, "dffffffff", 2, 1, 1, 1, 1, 1, 1, 1, 0)
	checkLayersAre(t, "fdfffffff", 0, 3, 1, 1, 1, 1, 1, 1, 0)
	checkLayersAre(t, "ffffdffff", 0, 1, 1, 1, 3, 1, 1, 1, 0)
	checkLayersAre(t, "fffffffdf", 0, 1, 1, 1, 1, 1, 1, 3, 0)
	checkLayersAre(t, "ffffffffd", 0, 1, 1, 1, 1, 1, 1, 1, 2)
	checkLayersAre(t, "ddddddddf", 2, 1, 1, 1, 1, 1, 1, 1, 0)
	checkLayersAre(t, "dddddddfd", 0, 3, 1, 1, 1, 1, 1, 1, 0)
	checkLayersAre(t, "ddddfdddd", 0, 1, 1, 1, 3, 1, 1, 1, 0)
	checkLayersAre(t, "fdddddddd", 0, 1, 1, 1, 1, 1, 1, 1, 2)
	checkLayersAre(t, "dffdf", 0, 2, 3, 0, 0)
	checkLayersAre(t, "dfdff", 0, 4, 1, 0, 0)
	checkLayersAre(t, "ffdfd", 0, 0, 1, 4, 0)
	checkLayersAre(t, "ddfdf", 0, 4, 1, 0, 0)
	checkLayersAre(t, "fddfd", 0, 0, 3, 2, 0)
}

func TestThickestPlaces(t *testing.T) {
	for n := 1; n <= maxSteps; n++ {
		// All steps lie upon each other.
		layers := make([]int, 2*n)
		layers[n-1] = 2 * n
		checkLayersAre(t, strings.Repeat("df", n), layers...)
		layers[n-1], layers[n] = 0, 2*n
		checkLayersAre(t, strings.Repeat("fd", n), layers...)
		checkNumbers(t, strings.Repeat("df", n), 2*n, 2*n-1)
		checkNumbers(t, strings.Repeat("fd", n), 2*n, 2*n-1)
		// With one step more of a kind at the end.
		if n < maxSteps {
			checkNumbers(t, strings.Repeat("df", n)+"f", 2*n, 2*n-1)
			checkNumbers(t, strings.Repeat("df", n)+"d", 2*n+1, 2*n)
			checkNumbers(t, strings.Repeat("fd", n)+"f", 2*n+1, 2*n)
			checkNumbers(t, strings.Repeat("fd", n)+"d", 2*n, 2*n-1)
		}
	}
	for _, frame := range allFrames() {
		down, forward := frame[0], frame[1]
		greatest, mostFree := 0, 0
		for _, s := range stripsOf(down, forward) {
			greatest = max(greatest, impl.ThickestOf(s))
			mostFree = max(mostFree, impl.FreePart(s))
		}
		// All steps of one kind can lie upon as many of the other kind, and one more of these upon them.
		want := 2 * min(down, forward)
		if down != forward {
			want++
		}
		if greatest != want || mostFree != down+forward-max(1, max(down, forward)-min(down, forward)) {
			t.Errorf("the greatest ThickestOf of all strips of %d is %d, and the greatest FreePart %d", frame, greatest, mostFree)
		}
	}
}

func TestFreePartsAtBothEnds(t *testing.T) {
	// At the left end, at the right end, at both ends.
	for _, c := range []struct {
		s           string
		left, right int
	}{{"fd", 1, 0}, {"df", 0, 1}, {"ffdd", 2, 0}, {"ddff", 0, 2}, {"dfdf", 1, 2}, {"fdfd", 2, 1}, {"dffd", 1, 1}, {"fddf", 1, 1}, {"dffffffff", 0, 1}, {"ffffffffd", 1, 0}, {"fdddddddd", 1, 0}, {"ddddddddf", 0, 1}, {"ffffdffff", 1, 1}, {"dddfdfff", 1, 4}, {"fffdfddd", 4, 1}, {"dddddddfffffffdf", 1, 8}, {"fffffffdddddddfd", 8, 1}, {impl.FlatStrip(maxSteps, maxSteps), 0, maxSteps}, {impl.HighStrip(maxSteps, maxSteps), maxSteps, 0}} {
		layers := impl.LayersOf(c.s)
		covered := layers[c.left : len(layers)-c.right]
		if zerosOf(covered) != 0 || sumOf(covered) != len(c.s) {
			t.Errorf("LayersOf(%q) = %d, want %d free parts at the left end and %d at the right one", c.s, layers, c.left, c.right)
		}
		checkNumbers(t, c.s, slices.Max(layers), c.left+c.right)
		checkLayers(t, c.s)
	}
}

func TestASquareThatIsAddedMovesTwoLayers(t *testing.T) {
	for _, s := range slices.Concat(stripsOf(3, 4), stripsOf(5, 2), stripsOf(1, maxSteps), stripsOf(maxSteps, 1), someStrips(maxSteps, maxSteps, 101)) {
		for _, k := range impl.RaisesOf(s) {
			raised, _ := impl.RaiseAt(s, k)
			place := walkOf(s, 0)[k][0]
			layers := impl.LayersOf(s)
			layers[place] -= 2
			layers[place+1] += 2
			checkLayersOf(t, raised, layers)
		}
	}
}

func TestUpperAndLowerStripsHaveTheSameLayersTogether(t *testing.T) {
	for _, strips := range [][]string{stripsOf(3, 3), stripsOf(2, 5), stripsOf(5, 2), someStrips(maxSteps, maxSteps, 337)} {
		for _, s := range strips {
			for _, u := range strips {
				upper, lower := impl.LayersOf(impl.UpperOf(s, u)), impl.LayersOf(impl.LowerOf(s, u))
				first, second := impl.LayersOf(s), impl.LayersOf(u)
				for x := range len(s) {
					if upper[x]+lower[x] != first[x]+second[x] {
						t.Errorf("%q and %q have the layers %d and %d, their upper and lower strip %d and %d", s, u, first, second, upper, lower)
						break
					}
				}
			}
		}
	}
}

func TestOtherTextsHaveNoLayers(t *testing.T) {
	for _, s := range otherTexts() {
		checkNoLayers(t, s)
	}
	for n := 1; n <= maxSteps+1; n++ {
		d, f := strings.Repeat("d", n), strings.Repeat("f", n)
		moreDown, moreForward := strings.Repeat("d", maxSteps)+d, strings.Repeat("f", maxSteps)+f
		for _, s := range []string{d, f, moreDown + "f", "f" + moreDown, moreForward + "d", "d" + moreForward, moreDown + moreForward, d + "x" + f, f + " " + d} {
			checkNoLayers(t, s)
		}
	}
	for _, s := range textsWithOtherBytes() {
		checkNoLayers(t, s)
	}
}

func TestClosedSmallCards(t *testing.T) {
	for _, c := range smallCards() {
		checkClosed(t, c)
	}
}

func TestClosedCardsOfEveryFrameAndNumberOfStrips(t *testing.T) {
	for _, frame := range allFrames() {
		down, forward := frame[0], frame[1]
		flat, high := impl.FlatStrip(down, forward), impl.HighStrip(down, forward)
		for n := 1; n <= maxStrips; n++ {
			checkClosed(t, mixedCard(down, forward, n))
			checkThicknessIs(t, cardOf(down, forward, slices.Repeat([]string{flat}, n)...), 2)
			checkThicknessIs(t, cardOf(down, forward, slices.Repeat([]string{high, flat}, n)[:n]...), 2)
		}
	}
}

func TestClosedCards(t *testing.T) {
	checkClosedIs(t, cardOf(1, 1, "fd"), 2, []int{0, 2})
	checkClosedIs(t, cardOf(1, 1, "df", "fd"), 2, []int{2, 0}, []int{0, 2})
	checkClosedIs(t, cardOf(2, 1, "dfd"), 3, []int{0, 3, 0})
	checkClosedIs(t, cardOf(2, 1, "ddf", "fdd"), 2, []int{2, 1, 0}, []int{0, 1, 2})
	checkClosedIs(t, cardOf(1, 2, "ffd", "fdf", "dff"), 3, []int{0, 1, 2}, []int{0, 3, 0}, []int{2, 1, 0})
	checkClosedIs(t, cardOf(2, 2, "ddff", "dfdf", "dfdf"), 4, []int{2, 2, 0, 0}, []int{0, 4, 0, 0}, []int{0, 4, 0, 0})
	checkClosedIs(t, impl.SampleCard(), 4, []int{2, 2, 2, 1, 0, 0, 0}, []int{0, 0, 4, 3, 0, 0, 0}, []int{0, 0, 4, 3, 0, 0, 0}, []int{0, 0, 0, 3, 4, 0, 0}, []int{2, 2, 2, 1, 0, 0, 0})
	// Layers of different strips are not upon each other, even where both have the most of them.
	checkThicknessIs(t, cardOf(3, 3, "dfdfdf", "dfdfdf", "dfdfdf"), 6)
	checkThicknessIs(t, cardOf(3, 3, "dddfff", "dddfff", "dfdfdf"), 6)
	checkThickness(t, cardOf(2, 2, "ddff"), 1, 4)
	checkThickness(t, cardOf(2, 2, "ddff"), maxSheet, 4000)
	checkThickness(t, cardOf(2, 2, "ddff", "dfdf"), 10, 60)
	checkThickness(t, impl.SampleCard(), 999, 5994)
	greatest := cardOf(maxSteps, maxSteps, slices.Repeat([]string{strings.Repeat("fd", maxSteps)}, maxStrips)...)
	checkThickness(t, greatest, maxSheet, 18000)
	checkClosedIs(t, greatest, 2*maxSteps, slices.Repeat([][]int{{0, 0, 0, 0, 0, 0, 0, 0, 16, 0, 0, 0, 0, 0, 0, 0}}, maxStrips)...)
}

func TestThickestStripAtEveryIndex(t *testing.T) {
	for n := 1; n <= maxStrips; n++ {
		for k := range n {
			for _, thick := range []string{"dfdfdfdf", "fdfdfdfd", "dfddfdff", "ddffddff", "fffdfddd"} {
				thickest := slices.Max(wantLayers(thick))
				strips := slices.Repeat([]string{"ddddffff", "ffffdddd", "dddffffd"}, n)[:n]
				strips[k] = thick
				checkThicknessIs(t, cardOf(4, 4, strips...), thickest)
				checkClosed(t, cardOf(4, 4, strips...))
				// It is not the only one.
				for i := range n {
					twice := slices.Clone(strips)
					twice[i] = thick
					checkThicknessIs(t, cardOf(4, 4, twice...), thickest)
					if i != k {
						// Another one is thicker than the others, but not as thick, or thicker.
						twice[i] = "dfdfddff"
						checkThicknessIs(t, cardOf(4, 4, twice...), max(thickest, slices.Max(wantLayers(twice[i]))))
					}
				}
			}
		}
	}
}

func TestStripsOrderedByLayers(t *testing.T) {
	strips := []string{"ddddffff", "ddffddff", "dfddfdff", "dfdfdfdf"}
	for n := 1; n <= len(strips); n++ {
		rising := cardOf(4, 4, strips[:n]...)
		checkClosed(t, rising)
		checkThicknessIs(t, rising, slices.Max(wantLayers(strips[n-1])))
		checkClosed(t, cardOf(4, 4, wantMirrored(strips[:n])...))
	}
}

func TestThicknessForEverySheet(t *testing.T) {
	for _, c := range []impl.Card{cardOf(1, 1, "df"), cardOf(2, 1, "fdd", "dfd", "ddf"), impl.SampleCard(), mixedCard(maxSteps, maxSteps, maxStrips)} {
		thickest := wantThickest(c)
		for sheet := -300; sheet <= maxSheet+300; sheet++ {
			want := -1
			if sheet >= 1 && sheet <= maxSheet {
				want = (thickest + 2) * sheet
			}
			checkThickness(t, c, sheet, want)
		}
		checkNoThickness(t, c, wrongSheets()...)
	}
}

func TestThicknessIsThatOfTheThickestStripAlone(t *testing.T) {
	for _, frame := range [][2]int{{2, 3}, {3, 2}, {4, 4}, {1, maxSteps}, {maxSteps, 1}, {maxSteps, maxSteps}} {
		for n := 1; n <= maxStrips; n++ {
			c := mixedCard(frame[0], frame[1], n)
			for _, sheet := range []int{1, 7, maxSheet} {
				greatest := 0
				for _, s := range c.Strips {
					greatest = max(greatest, impl.Thickness(cardOf(frame[0], frame[1], s), sheet))
				}
				checkThickness(t, c, sheet, greatest)
			}
		}
	}
}

func TestInvalidCardsAreNotClosed(t *testing.T) {
	for _, c := range allInvalidCards() {
		checkNotClosed(t, c)
	}
}
