package tests

import (
	"math/rand"
	"slices"
	"strings"
	"testing"

	"loop.example/g03305/impl"
)

const (
	maxSheetSide  = 200
	maxCopies     = 100000
	maxBandWidth  = 1000
	maxBandStrips = 30
)

// wantFit lays blanks on a sheet one by one, as long as the next one does not stand out over its edges.
func wantFit(width int, height int, columns int, rows int) int {
	fit := 0
	for right := columns; right <= width; right += columns {
		for top := rows; top <= height; top += rows {
			fit++
		}
	}
	return fit
}

// blankCard returns a valid card with a blank of so many columns and rows.
func blankCard(columns int, rows int) impl.Card {
	down := max(1, rows-maxSteps)
	return mixedCard(down, rows-down, columns)
}

// blankCards returns cards with blanks of all sizes, some of which have the same size but different frames.
func blankCards() []impl.Card {
	var cards []impl.Card
	for columns := 1; columns <= maxStrips; columns++ {
		for rows := 2; rows <= 2*maxSteps; rows++ {
			cards = append(cards, blankCard(columns, rows), impl.TurnCard(blankCard(columns, rows)), mixedCard(rows/2, rows-rows/2, columns))
		}
	}
	return cards
}

// sidesNear returns sides of sheets that are just a multiple of a part, one less and one more, and the least and the greatest one.
func sidesNear(part int) []int {
	sides := []int{1, 2, maxSheetSide - 1, maxSheetSide}
	for _, times := range []int{1, 2, 3, maxSheetSide / part} {
		sides = append(sides, times*part-1, times*part, times*part+1)
	}
	slices.Sort(sides)
	return slices.DeleteFunc(slices.Compact(sides), func(n int) bool { return n < 1 || n > maxSheetSide })
}

// checkAskedCard runs a function of a card and expects this result, and that the card and the memory behind it stay.
func checkAskedCard(t *testing.T, name string, args []int, c impl.Card, ask func(c impl.Card) int, want int) {
	t.Helper()
	checkLeft(t, c, func(c impl.Card) {
		for range 2 {
			if got := ask(c); got != want {
				t.Errorf("%s of %d and %s is %d, want %d", name, args, shortText(c), got, want)
			}
		}
	})
}

func checkBlank(t *testing.T, c impl.Card, columns int, rows int) {
	t.Helper()
	checkLeft(t, c, func(c impl.Card) {
		for range 2 {
			if gotColumns, gotRows := impl.BlankOf(c); gotColumns != columns || gotRows != rows {
				t.Errorf("BlankOf(%s) = %d, %d, want %d, %d", shortText(c), gotColumns, gotRows, columns, rows)
			}
		}
	})
}

func checkFit(t *testing.T, width int, height int, c impl.Card, want int) {
	t.Helper()
	checkAskedCard(t, "FitOn", []int{width, height}, c, func(c impl.Card) int { return impl.FitOn(width, height, c) }, want)
}

func checkBest(t *testing.T, width int, height int, c impl.Card, want int) {
	t.Helper()
	checkAskedCard(t, "BestFit", []int{width, height}, c, func(c impl.Card) int { return impl.BestFit(width, height, c) }, want)
}

func checkSheets(t *testing.T, width int, height int, c impl.Card, copies int, want int) {
	t.Helper()
	checkAskedCard(t, "SheetsFor", []int{width, height, copies}, c, func(c impl.Card) int { return impl.SheetsFor(width, height, c, copies) }, want)
}

// checkFits expects that so many blanks lie on a sheet and so many on the turned one, of which the greater number counts for both.
func checkFits(t *testing.T, width int, height int, c impl.Card, fit int, turned int) {
	t.Helper()
	checkFit(t, width, height, c, fit)
	checkFit(t, height, width, c, turned)
	checkBest(t, width, height, c, max(fit, turned))
	checkBest(t, height, width, c, max(fit, turned))
}

// checkLaid compares a valid card on a sheet with blanks that are laid one by one.
func checkLaid(t *testing.T, width int, height int, c impl.Card) {
	t.Helper()
	columns, rows := len(c.Strips), len(c.Strips[0])
	checkFits(t, width, height, c, wantFit(width, height, columns, rows), wantFit(height, width, columns, rows))
}

// checkNeeded expects so many sheets for a number of copies, on the sheet and on the turned one.
func checkNeeded(t *testing.T, width int, height int, c impl.Card, copies int, want int) {
	t.Helper()
	checkSheets(t, width, height, c, copies, want)
	checkSheets(t, height, width, c, copies, want)
}

// checkEnough expects that the sheets are enough for a number of copies, and that one sheet less would not be.
func checkEnough(t *testing.T, width int, height int, c impl.Card, copies int) {
	t.Helper()
	fit, sheets := impl.BestFit(width, height, c), impl.SheetsFor(width, height, c, copies)
	if sheets < 0 || sheets*fit < copies || (copies == 0 && sheets != 0) || (copies > 0 && (sheets-1)*fit >= copies) {
		t.Errorf("SheetsFor(%d, %d, %s, %d) = %d with %d on each sheet", width, height, shortText(c), copies, sheets, fit)
	}
	checkNeeded(t, width, height, c, copies, sheets)
}

// checkNoSheet expects that no blank of a card lies on a sheet, and that no number of sheets is enough.
func checkNoSheet(t *testing.T, width int, height int, c impl.Card) {
	t.Helper()
	checkFits(t, width, height, c, 0, 0)
	for _, copies := range []int{0, 1, 13, maxCopies, -1, maxCopies + 1} {
		checkNeeded(t, width, height, c, copies, -1)
	}
}

func TestBlanks(t *testing.T) {
	for _, frame := range allFrames() {
		for n := 1; n <= maxStrips; n++ {
			checkBlank(t, mixedCard(frame[0], frame[1], n), n, frame[0]+frame[1])
		}
	}
	for _, c := range smallCards() {
		checkBlank(t, c, len(c.Strips), len(c.Strips[0]))
	}
	checkBlank(t, cardOf(1, 1, "fd"), 1, 2)
	checkBlank(t, cardOf(1, 1, slices.Repeat([]string{"fd", "df"}, 5)...), 10, 2)
	checkBlank(t, cardOf(maxSteps, maxSteps, impl.HighStrip(maxSteps, maxSteps)), 1, 16)
	checkBlank(t, mixedCard(maxSteps, maxSteps, maxStrips), 10, 16)
	checkBlank(t, cardOf(1, 8, "fffffffdf", "dffffffff"), 2, 9)
	checkBlank(t, cardOf(8, 1, "dddddddfd", "fdddddddd"), 2, 9)
	checkBlank(t, cardOf(2, 2, "ddff", "dfdf", "dfdf"), 3, 4)
	checkBlank(t, impl.SampleCard(), 5, 7)
}

func TestCardsWithoutBlanks(t *testing.T) {
	for _, c := range append(allInvalidCards(), impl.Card{}, impl.Card{Down: 2, Forward: 2}, impl.Card{Down: 2, Forward: 2, Strips: []string{}}) {
		checkBlank(t, c, 0, 0)
		for _, side := range [][2]int{{10, 9}, {maxSheetSide, maxSheetSide}, {1, 1}, {0, 9}, {10, maxSheetSide + 1}} {
			checkFits(t, side[0], side[1], c, 0, 0)
		}
		for _, copies := range []int{0, 1, maxCopies, -1, maxCopies + 1} {
			checkNeeded(t, maxSheetSide, maxSheetSide-1, c, copies, -1)
		}
		checkNoSheet(t, 1, maxSheetSide, c)
	}
}

func TestFitsNearTheMultiplesOfTheBlank(t *testing.T) {
	for _, c := range blankCards() {
		columns, rows := len(c.Strips), len(c.Strips[0])
		for _, width := range sidesNear(columns) {
			for _, height := range sidesNear(rows) {
				checkLaid(t, width, height, c)
			}
		}
	}
}

func TestFitsOnAllSheets(t *testing.T) {
	for _, c := range []impl.Card{cardOf(1, 1, "df"), cardOf(2, 2, "ddff", "dfdf", "dfdf"), blankCard(10, 16)} {
		for width := 1; width <= maxSheetSide; width++ {
			for height := 1; height <= width; height++ {
				checkLaid(t, width, height, c)
			}
		}
	}
}

func TestFitsByHand(t *testing.T) {
	c := cardOf(2, 2, "ddff", "dfdf", "dfdf")
	// Each quotient is rounded down by itself: 10 times 9 squares have room for the 12 squares of 7 blanks.
	checkFits(t, 10, 9, c, 6, 6)
	checkFits(t, 8, 12, c, 6, 8)
	checkFits(t, 12, 8, c, 8, 6)
	checkFits(t, 11, 7, c, 3, 4)
	checkFits(t, 3, 4, c, 1, 0)
	checkFits(t, 3, 3, c, 0, 0)
	checkFits(t, 2, 4, c, 0, 0)
	checkFits(t, 5, 7, c, 1, 2)
	checkFits(t, 6, 7, c, 2, 2)
	checkFits(t, 5, 8, c, 2, 2)
	checkFits(t, 6, 8, c, 4, 2)
	checkFits(t, 1, 1, c, 0, 0)
	checkFits(t, 2, 2, c, 0, 0)
	checkFits(t, 1, 200, c, 0, 0)
	checkFits(t, 3, 200, c, 50, 0)
	checkFits(t, 4, 200, c, 50, 66)
	checkFits(t, 200, 200, c, 3300, 3300)
	checkFits(t, 199, 200, c, 3300, 3234)
	checkFits(t, 1, 2, cardOf(1, 1, "fd"), 1, 0)
	checkFits(t, 1, 1, cardOf(1, 1, "fd"), 0, 0)
	checkFits(t, 2, 2, cardOf(1, 1, "fd"), 2, 2)
	checkFits(t, 200, 200, cardOf(1, 1, "fd"), 20000, 20000)
	checkFits(t, 1, 200, cardOf(1, 1, "fd"), 100, 0)
	checkFits(t, 10, 16, blankCard(10, 16), 1, 0)
	checkFits(t, 200, 200, blankCard(10, 16), 240, 240)
	checkFits(t, 16, 10, blankCard(10, 16), 0, 1)
	checkFits(t, 15, 15, blankCard(10, 16), 0, 0)
	checkFits(t, 9, 200, blankCard(10, 16), 0, 0)
	checkFits(t, 200, 9, blankCard(10, 2), 80, 0)
	checkFits(t, 9, 200, blankCard(10, 2), 0, 80)
}

// TestBestFitOfSheetAndTurnedSheet expects that there are sheets of each kind: better as they are, better turned, the same, and without room one way round or both.
func TestBestFitOfSheetAndTurnedSheet(t *testing.T) {
	kinds := map[string]int{}
	c := blankCard(3, 5)
	for width := 1; width <= 40; width++ {
		for height := 1; height <= 40; height++ {
			fit, turned := wantFit(width, height, 3, 5), wantFit(height, width, 3, 5)
			checkFits(t, width, height, c, fit, turned)
			switch {
			case fit == 0 && turned == 0:
				kinds["neither"]++
			case fit == 0:
				kinds["turned only"]++
			case turned == 0:
				kinds["as it is only"]++
			case fit > turned:
				kinds["as it is"]++
			case fit < turned:
				kinds["turned"]++
			default:
				kinds["same"]++
			}
		}
	}
	if len(kinds) != 6 {
		t.Errorf("the sheets are of these kinds: %v", kinds)
	}
}

func TestSheetsThatAreTooSmallOrTooLarge(t *testing.T) {
	for _, c := range []impl.Card{cardOf(1, 1, "df"), cardOf(2, 2, "ddff", "dfdf", "dfdf"), impl.SampleCard(), blankCard(10, 16)} {
		for _, wrong := range numbersOutside(1, maxSheetSide) {
			for _, right := range []int{1, 2, 16, 100, maxSheetSide} {
				checkNoSheet(t, wrong, right, c)
			}
			for _, other := range []int{0, -1, maxSheetSide + 1, wrong} {
				checkNoSheet(t, wrong, other, c)
			}
		}
		checkNoSheet(t, 0, maxSheetSide, c)
		checkNoSheet(t, -1, maxSheetSide, c)
		checkNoSheet(t, maxSheetSide+1, maxSheetSide, c)
		checkNoSheet(t, -16, -10, c)
	}
}

func TestSheetsAreEnough(t *testing.T) {
	for _, c := range blankCards() {
		columns, rows := len(c.Strips), len(c.Strips[0])
		for _, sides := range [][2]int{{columns, rows}, {columns + rows, 2*rows + 1}, {16, 17}, {100, 60}, {maxSheetSide, maxSheetSide}} {
			width, height := sides[0], sides[1]
			fit := impl.BestFit(width, height, c)
			if fit < 1 {
				t.Fatalf("BestFit(%d, %d, %s) = %d", width, height, shortText(c), fit)
			}
			checkNeeded(t, width, height, c, 0, 0)
			checkNeeded(t, width, height, c, 1, 1)
			for _, sheets := range []int{1, 2, 3, 7, maxCopies / fit} {
				if sheets*fit > maxCopies {
					continue
				}
				checkNeeded(t, width, height, c, sheets*fit, sheets)
				checkNeeded(t, width, height, c, (sheets-1)*fit+1, sheets)
				if copies := sheets*fit + 1; copies <= maxCopies {
					checkNeeded(t, width, height, c, copies, sheets+1)
				}
			}
			for _, copies := range []int{0, 1, 2, 999, 99999, maxCopies} {
				checkEnough(t, width, height, c, copies)
			}
		}
	}
}

func TestSheetsForAllSmallNumbersOfCopies(t *testing.T) {
	c := cardOf(2, 2, "ddff", "dfdf", "dfdf")
	for _, sides := range [][3]int{{3, 4, 1}, {4, 3, 1}, {5, 7, 2}, {12, 8, 8}, {8, 12, 8}, {10, 9, 6}, {20, 30, 50}, {maxSheetSide, maxSheetSide, 3300}} {
		// One sheet after the other is begun when there is no more room.
		sheets, room := 0, 0
		for copies := range 7000 {
			checkNeeded(t, sides[0], sides[1], c, copies, sheets)
			if room == 0 {
				sheets++
				room = sides[2]
			}
			room--
		}
	}
}

func TestSheetsForByHand(t *testing.T) {
	c := cardOf(2, 2, "ddff", "dfdf", "dfdf")
	checkNeeded(t, 10, 9, c, 0, 0)
	checkNeeded(t, 10, 9, c, 1, 1)
	checkNeeded(t, 10, 9, c, 5, 1)
	checkNeeded(t, 10, 9, c, 6, 1)
	checkNeeded(t, 10, 9, c, 7, 2)
	checkNeeded(t, 10, 9, c, 12, 2)
	checkNeeded(t, 10, 9, c, 13, 3)
	checkNeeded(t, 10, 9, c, 99996, 16666)
	checkNeeded(t, 10, 9, c, 99997, 16667)
	checkNeeded(t, 10, 9, c, 100000, 16667)
	checkNeeded(t, 12, 8, c, 8, 1)
	checkNeeded(t, 12, 8, c, 9, 2)
	checkNeeded(t, 3, 4, c, 100000, 100000)
	checkNeeded(t, 200, 200, c, 100000, 31)
	checkNeeded(t, 200, 200, cardOf(1, 1, "fd"), 100000, 5)
	checkNeeded(t, 200, 199, cardOf(1, 1, "fd"), 100000, 6)
	checkNeeded(t, 2, 2, c, 1, -1)
	checkNeeded(t, 2, 2, c, 0, -1)
	checkNeeded(t, 3, 3, c, 0, -1)
	checkNeeded(t, 2, 200, c, 5, -1)
	checkNeeded(t, 3, 200, c, 51, 2)
	checkNeeded(t, 10, 9, c, -1, -1)
	checkNeeded(t, 10, 9, c, 100001, -1)
	checkNeeded(t, 3, 4, c, 100001, -1)
}

func TestWrongNumbersOfCopies(t *testing.T) {
	for _, c := range []impl.Card{cardOf(1, 1, "df"), impl.SampleCard(), blankCard(10, 16), {}} {
		for _, copies := range numbersOutside(0, maxCopies) {
			for _, sides := range [][2]int{{maxSheetSide, maxSheetSide}, {10, 16}, {1, 2}, {1, 1}, {0, 10}, {maxSheetSide, maxSheetSide + 1}} {
				checkNeeded(t, sides[0], sides[1], c, copies, -1)
			}
		}
	}
}

// wantBands returns the numbers of the bands by what is left of as many bands as there are strips.
func wantBands(width int, rows []int) []int {
	left := slices.Repeat([]int{width}, len(rows))
	var numbers []int
	for _, length := range rows {
		number := slices.IndexFunc(left, func(room int) bool { return room >= length })
		left[number] -= length
		numbers = append(numbers, number)
	}
	return numbers
}

// checkBands expects these numbers of bands in new memory, and that the lengths and what is behind them stay.
func checkBands(t *testing.T, width int, rows []int, want []int) {
	t.Helper()
	given, all := numbersWithSpare(rows)
	before := slices.Clone(all)
	// The result of the first round is overwritten, which the second one must not see.
	for range 2 {
		got, again := impl.FirstFit(width, given), impl.FirstFit(width, given)
		if !slices.Equal(got, want) || !slices.Equal(again, want) {
			t.Errorf("FirstFit(%d, %.200v) = %d and %d, want %d", width, shortList(rows), got, again, want)
		}
		if !slices.Equal(all, before) {
			t.Fatalf("FirstFit(%d, %v) changed the lengths or the memory behind them to %v", width, shortList(rows), shortList(all))
		}
		overwriteApart(t, [][]int{got, again})
		if longer := append(got, 5, 6, 7); !slices.Equal(all, before) || len(longer) != len(got)+3 {
			t.Fatalf("FirstFit(%d, %v) returns numbers that share memory with the lengths", width, shortList(rows))
		}
	}
}

// shortList returns the first lengths of a list.
func shortList(list []int) []int { return list[:min(len(list), 40)] }

func checkNoBands(t *testing.T, width int, rows ...int) {
	t.Helper()
	checkBands(t, width, rows, nil)
}

// checkFilled compares the bands with what is left of them, and expects what is promised of them.
func checkFilled(t *testing.T, width int, rows ...int) {
	t.Helper()
	checkBands(t, width, rows, wantBands(width, rows))
	checkPromisedBands(t, width, rows, impl.FirstFit(width, rows))
}

// checkPromisedBands expects that each strip lies in the first band with room for it, and that bands are filled at least half on average.
func checkPromisedBands(t *testing.T, width int, rows []int, numbers []int) {
	t.Helper()
	var filled []int
	for i, number := range numbers {
		if number < 0 || number > len(filled) {
			t.Fatalf("FirstFit(%d, %d) = %d leaves out a band", width, rows, numbers)
		}
		for _, sum := range filled[:number] {
			if sum+rows[i] <= width {
				t.Fatalf("FirstFit(%d, %d) = %d passes by room for strip %d", width, rows, numbers, i)
			}
		}
		if number == len(filled) {
			filled = append(filled, 0)
		}
		filled[number] += rows[i]
		if filled[number] > width {
			t.Fatalf("FirstFit(%d, %d) = %d fills band %d too much", width, rows, numbers, number)
		}
	}
	for i, sum := range filled {
		for _, later := range filled[i+1:] {
			if sum+later <= width {
				t.Errorf("FirstFit(%d, %d) = %d has two bands with room for one of them", width, rows, numbers)
			}
		}
	}
	if len(filled) > 1 && 2*sumOf(rows) <= width*len(filled) {
		t.Errorf("FirstFit(%d, %d) = %d fills less than half of its bands", width, rows, numbers)
	}
}

func TestBandsOfAllShortLists(t *testing.T) {
	for width, most := range []int{1: 30, 2: 10, 3: 7, 4: 6, 5: 6, 6: 5, 7: 4, 10: 4} {
		var lengths []int
		for length := 1; length <= width; length++ {
			lengths = append(lengths, length)
		}
		for _, rows := range listsOf(lengths, most) {
			if width > 0 {
				checkFilled(t, width, rows...)
			}
		}
	}
}

func TestBandsByHand(t *testing.T) {
	checkBands(t, 10, nil, nil)
	checkBands(t, 10, []int{}, nil)
	checkBands(t, 1, nil, nil)
	checkBands(t, maxBandWidth, nil, nil)
	checkBands(t, 10, []int{6, 5, 4, 3, 5}, []int{0, 1, 0, 1, 2})
	checkBands(t, 1, []int{1}, []int{0})
	checkBands(t, 1, []int{1, 1, 1}, []int{0, 1, 2})
	checkBands(t, 2, []int{1, 1, 1}, []int{0, 0, 1})
	checkBands(t, 10, []int{1}, []int{0})
	checkBands(t, 10, []int{10}, []int{0})
	checkBands(t, 10, []int{10, 10}, []int{0, 1})
	checkBands(t, maxBandWidth, []int{1}, []int{0})
	checkBands(t, maxBandWidth, []int{maxBandWidth, 1, maxBandWidth - 1, 1}, []int{0, 1, 1, 2})
	// Bands are filled exactly, or miss it by 1.
	checkBands(t, 10, []int{6, 4, 1}, []int{0, 0, 1})
	checkBands(t, 10, []int{6, 3, 2, 1}, []int{0, 0, 1, 0})
	checkBands(t, 10, []int{6, 5, 4, 5}, []int{0, 1, 0, 1})
	checkBands(t, 10, []int{2, 3, 5, 1}, []int{0, 0, 0, 1})
	checkBands(t, 10, []int{2, 3, 4, 2, 1}, []int{0, 0, 0, 1, 0})
	// Neither the last band with room is taken, nor the fullest one, nor the emptiest one.
	checkBands(t, 10, []int{5, 6, 4}, []int{0, 1, 0})
	checkBands(t, 10, []int{5, 8, 7, 2}, []int{0, 1, 2, 0})
	checkBands(t, 10, []int{7, 6, 8, 3, 2, 2, 2}, []int{0, 1, 2, 0, 1, 1, 2})
	checkBands(t, 10, []int{8, 6, 2}, []int{0, 1, 0})
	checkBands(t, 10, []int{8, 6, 9, 1, 1, 1, 1}, []int{0, 1, 2, 0, 0, 1, 1})
	// One band in the middle has room.
	checkBands(t, 10, []int{9, 5, 8, 3}, []int{0, 1, 2, 1})
	checkBands(t, 10, []int{9, 8, 5, 2, 2, 2}, []int{0, 1, 2, 1, 2, 2})
	// A strip that fits into no band does not close those before.
	checkBands(t, 10, []int{4, 7, 9, 6, 3, 1}, []int{0, 1, 2, 0, 1, 2})
	// Rising, falling.
	checkBands(t, 10, []int{1, 2, 3, 4, 5, 6, 7, 8, 9, 10}, []int{0, 0, 0, 0, 1, 2, 3, 4, 5, 6})
	checkBands(t, 10, []int{10, 9, 8, 7, 6, 5, 4, 3, 2, 1}, []int{0, 1, 2, 3, 4, 5, 4, 3, 2, 1})
}

func TestBandsOfEqualStrips(t *testing.T) {
	for _, width := range []int{1, 2, 3, 7, 10, 60, 199, 200, 999, maxBandWidth} {
		for length := 1; length <= width; length++ {
			for _, n := range []int{1, 2, 29, maxBandStrips} {
				var want []int
				for i := range n {
					want = append(want, i/(width/length))
				}
				checkBands(t, width, slices.Repeat([]int{length}, n), want)
			}
		}
	}
}

func TestBandsOfRowsInOrder(t *testing.T) {
	for _, width := range []int{30, 31, 45, 60, 100, 999, maxBandWidth} {
		for n := range maxBandStrips + 1 {
			rising, mixed := make([]int, n), make([]int, n)
			for i := range n {
				rising[i] = (i + 1) * width / maxBandStrips
				mixed[i] = 1 + i*i*7%width
			}
			falling := slices.Clone(rising)
			slices.Reverse(falling)
			checkFilled(t, width, rising...)
			checkFilled(t, width, falling...)
			checkFilled(t, width, mixed...)
			// Strips that are just longer than half of a band lie alone, those that are not lie in pairs.
			halves := slices.Repeat([]int{width/2 + 1, width / 2}, n/2)
			checkFilled(t, width, halves...)
			checkFilled(t, width, alternating(n, width, 1)...)
			checkFilled(t, width, alternating(n, 1, width)...)
		}
	}
}

// alternating returns n lengths, by turns one and the other.
func alternating(n int, one int, other int) []int {
	return slices.Repeat([]int{one, other}, n)[:n]
}

func TestBandsOfRandomRows(t *testing.T) {
	random := rand.New(rand.NewSource(19))
	for range 20000 {
		width := 1 + random.Intn(maxBandWidth)
		if random.Intn(2) == 0 {
			width = 1 + random.Intn(12)
		}
		longest := 1 + random.Intn(width)
		rows := make([]int, random.Intn(maxBandStrips+1))
		for i := range rows {
			rows[i] = 1 + random.Intn(longest)
		}
		checkFilled(t, width, rows...)
	}
}

func TestWrongWidthsOfBands(t *testing.T) {
	for _, width := range numbersOutside(1, maxBandWidth) {
		checkNoBands(t, width)
		checkNoBands(t, width, 1)
		checkNoBands(t, width, 1, 2, 3)
		checkNoBands(t, width, 0)
		checkNoBands(t, width, width)
		checkNoBands(t, width, slices.Repeat([]int{1}, maxBandStrips+1)...)
	}
	for width := -20; width <= maxBandWidth+20; width++ {
		if width >= 1 && width <= maxBandWidth {
			checkFilled(t, width, width, 1, width)
			checkNoBands(t, width, width+1)
		} else {
			checkNoBands(t, width, 1)
			checkNoBands(t, width)
		}
	}
}

func TestTooManyStripsForBands(t *testing.T) {
	for _, width := range []int{1, 10, maxBandWidth} {
		checkFilled(t, width, slices.Repeat([]int{1}, maxBandStrips)...)
		checkFilled(t, width, slices.Repeat([]int{width}, maxBandStrips)...)
		for _, n := range []int{maxBandStrips + 1, maxBandStrips + 2, 60, 256, 287, 100000} {
			checkNoBands(t, width, slices.Repeat([]int{1}, n)...)
			checkNoBands(t, width, slices.Repeat([]int{width}, n)...)
			checkNoBands(t, width, slices.Repeat([]int{0}, n)...)
		}
	}
}

func TestWrongLengthsOfStrips(t *testing.T) {
	for _, width := range []int{1, 2, 10, 255, 999, maxBandWidth} {
		wrong := append(numbersOutside(1, width), -width)
		for _, n := range []int{1, 2, 3, 4, 15, 29, maxBandStrips} {
			rows := make([]int, n)
			for i := range n {
				rows[i] = 1 + i*3%width
			}
			checkFilled(t, width, rows...)
			for i := range n {
				for _, length := range wrong {
					changed := slices.Clone(rows)
					changed[i] = length
					checkNoBands(t, width, changed...)
				}
			}
		}
	}
}

func TestBandsShareNoMemory(t *testing.T) {
	rows := []int{6, 5, 4, 3, 5}
	first, second := impl.FirstFit(10, rows), impl.FirstFit(10, rows)
	checkApart(t, rows, first, second)
	first[0], rows[1] = 77, 9
	if longer := append(first, 1); longer[0] != 77 || !slices.Equal(second, []int{0, 1, 0, 1, 2}) || !slices.Equal(rows, []int{6, 9, 4, 3, 5}) {
		t.Errorf("a change of one list changes others: %d, %d and %d", rows, longer, second)
	}
	// A part of a longer list is left alone, with what is before and behind it.
	all := []int{1, 2, 3, 3, 3, 3, 8, 9}
	checkFilled(t, 10, all[2:5]...)
	if numbers := impl.FirstFit(10, all[2:5]); !slices.Equal(numbers, []int{0, 0, 0}) || !slices.Equal(all, []int{1, 2, 3, 3, 3, 3, 8, 9}) {
		t.Errorf("FirstFit of a part of %d is %d", all, numbers)
	}
	checkApart(t, all, impl.FirstFit(10, all[2:5]), impl.FirstFit(10, all[:0]), impl.FirstFit(0, all))
}

func TestBlanksDoNotDependOnTheStepsOfTheStrips(t *testing.T) {
	for _, frame := range [][2]int{{1, 1}, {2, 3}, {3, 2}, {4, 4}, {1, maxSteps}, {maxSteps, 1}} {
		rows := frame[0] + frame[1]
		for _, s := range stripsOf(frame[0], frame[1]) {
			c := cardOf(frame[0], frame[1], s, impl.FlatStrip(frame[0], frame[1]), s)
			checkBlank(t, c, 3, rows)
			checkFits(t, 3*7+2, rows*5+1, c, 35, (rows*5+1)/3*(23/rows))
		}
	}
	// Neither the text of a strip that is wrong nor its length makes a blank.
	checkBlank(t, cardOf(2, 2, "ddff", strings.Repeat("x", 4)), 0, 0)
	checkBlank(t, cardOf(2, 2, "ddff", "dddf"), 0, 0)
}
