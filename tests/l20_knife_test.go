package tests

import (
	"fmt"
	"math/rand"
	"slices"
	"strings"
	"testing"

	"loop.example/g03305/impl"
)

const (
	maxCutEnd       = 100
	maxWayCuts      = 8
	maxShortestCuts = 6
)

// knifeCuts reads cuts like "2:3-5 1:0-1": in row 2 from 3 to 5, and in row 1 from 0 to 1.
func knifeCuts(text string) []impl.Cut {
	var list []impl.Cut
	for _, field := range strings.Fields(text) {
		var cut impl.Cut
		if n, err := fmt.Sscanf(field, "%d:%d-%d", &cut.Row, &cut.From, &cut.To); n != 3 {
			panic(err)
		}
		list = append(list, cut)
	}
	return list
}

// digitsOf reads an order like "201".
func digitsOf(text string) []int {
	var order []int
	for _, digit := range text {
		order = append(order, int(digit-'0'))
	}
	return order
}

// countTo returns the numbers from 0 to n - 1.
func countTo(n int) []int {
	var numbers []int
	for i := range n {
		numbers = append(numbers, i)
	}
	return numbers
}

// shortCuts returns the first cuts of a list.
func shortCuts(list []impl.Cut) []impl.Cut { return list[:min(len(list), 12)] }

// wantCutsOf pairs the ends of the parts that are cut between strips side by side.
func wantCutsOf(c impl.Card) []impl.Cut {
	var list []impl.Cut
	for k := 1; k < len(c.Strips); k++ {
		for _, run := range wantCutRuns(wantCuts(c.Strips[k-1], c.Strips[k])) {
			list = append(list, impl.Cut{Row: k, From: run[0], To: run[1] + 1})
		}
	}
	return list
}

// knife counts the steps that it goes.
type knife struct {
	row   int
	place int
	steps int
}

// goTo goes to a place one step at a time.
func (k *knife) goTo(row int, place int) {
	for k.row != row || k.place != place {
		switch {
		case k.row < row:
			k.row++
		case k.row > row:
			k.row--
		case k.place < place:
			k.place++
		default:
			k.place--
		}
		k.steps++
	}
}

// stepsTo tells how many steps a knife would go to a place.
func (k knife) stepsTo(row int, place int) int {
	before := k.steps
	k.goTo(row, place)
	return k.steps - before
}

// makeCut goes to one end of a cut and along it to the other one.
func (k *knife) makeCut(cut impl.Cut) {
	ends := []int{cut.From, cut.To}
	if k.stepsTo(cut.Row, cut.To) < k.stepsTo(cut.Row, cut.From) {
		slices.Reverse(ends)
	}
	for _, end := range ends {
		k.goTo(cut.Row, end)
	}
}

func wantLength(list []impl.Cut, order []int) int {
	var k knife
	for _, i := range order {
		k.makeCut(list[i])
	}
	return k.steps
}

// wantNearest looks for the next cut at no distance first, and then farther and farther away.
func wantNearest(list []impl.Cut) []int {
	var k knife
	var order []int
	left := countTo(len(list))
	for far := 0; len(left) > 0; far++ {
		at := slices.IndexFunc(left, func(i int) bool {
			cut := list[i]
			return k.stepsTo(cut.Row, cut.From) == far || k.stepsTo(cut.Row, cut.To) == far
		})
		if at >= 0 {
			k.makeCut(list[left[at]])
			order = append(order, left[at])
			left = slices.Delete(left, at, at+1)
			far = -1
		}
	}
	return order
}

// wantShortest tries each order, wherever it comes.
func wantShortest(list []impl.Cut) []int {
	orders := allOrders(len(list))
	shortest, least := orders[0], wantLength(list, orders[0])
	for _, order := range orders {
		if way := wantLength(list, order); way < least || way == least && slices.Compare(order, shortest) < 0 {
			shortest, least = order, way
		}
	}
	return shortest
}

// checkListLeft expects that a function leaves cuts and the memory behind them alone.
func checkListLeft(t *testing.T, list []impl.Cut, run func(list []impl.Cut)) {
	t.Helper()
	all := slices.Concat(list, []impl.Cut{{Row: 1, From: 0, To: 2}, {Row: -7, From: 9, To: 3}})
	before := slices.Clone(all)
	run(all[:len(list)])
	if !slices.Equal(all, before) {
		t.Errorf("the cuts %v or the memory behind them were changed to %v", shortCuts(before), shortCuts(all))
	}
}

// checkCutsOf expects these cuts of a card, in memory of their own.
func checkCutsOf(t *testing.T, c impl.Card, want []impl.Cut) {
	t.Helper()
	checkLeft(t, c, func(c impl.Card) {
		// The cuts of the first round are overwritten, which the second one must not see.
		for range 2 {
			got, again := impl.CutsOf(c), impl.CutsOf(c)
			if !slices.Equal(got, want) || !slices.Equal(again, want) {
				t.Errorf("CutsOf(%s) = %v and %v, want %v", shortText(c), got, again, want)
			}
			checkApart(t, got, again)
			for i := range got[:cap(got)] {
				got[:cap(got)][i] = impl.Cut{Row: 99, From: 98, To: 97}
			}
		}
	})
}

// checkCutsText expects the cuts that are written like those of knifeCuts.
func checkCutsText(t *testing.T, text string, c impl.Card) {
	t.Helper()
	checkCutsOf(t, c, knifeCuts(text))
}

// checkCardToCut expects the cuts of a valid card, and that they are in order, with gaps between them, and together as long as all its cuts.
func checkCardToCut(t *testing.T, c impl.Card) {
	t.Helper()
	checkCutsOf(t, c, wantCutsOf(c))
	list := impl.CutsOf(c)
	if total := impl.TotalCut(list); total != impl.CutLength(c) {
		t.Errorf("TotalCut of the cuts of %s is %d, want %d", shortText(c), total, impl.CutLength(c))
	}
	for i, cut := range list {
		if cut.Row < 1 || cut.Row >= len(c.Strips) || cut.From < 0 || cut.To < cut.From+2 || cut.To > c.Down+c.Forward {
			t.Errorf("CutsOf(%s) = %v", shortText(c), list)
		}
		if i > 0 && (cut.Row < list[i-1].Row || cut.Row == list[i-1].Row && cut.From <= list[i-1].To) {
			t.Errorf("CutsOf(%s) = %v is not in order", shortText(c), list)
		}
	}
}

// checkLengthIs expects this way, and that neither the cuts nor the order nor what is behind them are changed.
func checkLengthIs(t *testing.T, list []impl.Cut, order []int, want int) {
	t.Helper()
	checkListLeft(t, list, func(list []impl.Cut) {
		given, all := numbersWithSpare(order)
		before := slices.Clone(all)
		for range 2 {
			if got := impl.WayOf(list, given); got != want {
				t.Errorf("WayOf(%v, %v) = %d, want %d", shortCuts(list), shortList(order), got, want)
			}
		}
		if !slices.Equal(all, before) {
			t.Errorf("WayOf(%v, %v) changed the order or the memory behind it to %v", shortCuts(list), shortList(order), shortList(all))
		}
	})
}

// checkKnifeText expects this way of the cuts of a text in the order of another one.
func checkKnifeText(t *testing.T, cuts string, order string, want int) {
	t.Helper()
	checkLengthIs(t, knifeCuts(cuts), digitsOf(order), want)
}

// checkKnifeWay compares the way with that of a knife that goes step by step.
func checkKnifeWay(t *testing.T, list []impl.Cut, order []int) {
	t.Helper()
	checkLengthIs(t, list, order, wantLength(list, order))
	if way, total := impl.WayOf(list, order), impl.TotalCut(list); way < total {
		t.Errorf("WayOf(%v, %v) = %d, but the cuts are %d long", list, order, way, total)
	}
}

// checkFoundOrder expects this order of a function of cuts, in memory of its own.
func checkFoundOrder(t *testing.T, name string, list []impl.Cut, find func(list []impl.Cut) []int, want []int) {
	t.Helper()
	checkListLeft(t, list, func(list []impl.Cut) {
		// The orders of the first round are overwritten, which the second one must not see.
		for range 2 {
			got, again := find(list), find(list)
			if !slices.Equal(got, want) || !slices.Equal(again, want) {
				t.Errorf("%s(%v) = %v and %v, want %v", name, shortCuts(list), got, again, want)
			}
			overwriteApart(t, [][]int{got, again})
		}
	})
}

func checkNearest(t *testing.T, list []impl.Cut, want []int) {
	t.Helper()
	checkFoundOrder(t, "NearestOrder", list, impl.NearestOrder, want)
}

func checkShortest(t *testing.T, list []impl.Cut, want []int) {
	t.Helper()
	checkFoundOrder(t, "ShortestOrder", list, impl.ShortestOrder, want)
}

func checkTotal(t *testing.T, list []impl.Cut, want int) {
	t.Helper()
	checkListLeft(t, list, func(list []impl.Cut) {
		for range 2 {
			if got := impl.TotalCut(list); got != want {
				t.Errorf("TotalCut(%v) = %d, want %d", shortCuts(list), got, want)
			}
		}
	})
}

// checkNearestText expects this nearest order and its way.
func checkNearestText(t *testing.T, cuts string, order string, way int) {
	t.Helper()
	checkNearest(t, knifeCuts(cuts), digitsOf(order))
	checkKnifeText(t, cuts, order, way)
}

// checkShortestText expects this shortest order and its way.
func checkShortestText(t *testing.T, cuts string, order string, way int) {
	t.Helper()
	checkShortest(t, knifeCuts(cuts), digitsOf(order))
	checkKnifeText(t, cuts, order, way)
	checkPromisedOrders(t, knifeCuts(cuts))
}

// checkPromisedOrders expects that no order is shorter than the shortest one, that those before it are longer, and that none is shorter than the cuts alone.
func checkPromisedOrders(t *testing.T, list []impl.Cut) {
	t.Helper()
	shortest, total := impl.ShortestOrder(list), impl.TotalCut(list)
	least := impl.WayOf(list, shortest)
	if least < total {
		t.Fatalf("ShortestOrder(%v) = %v is %d long, and the cuts are %d long", list, shortest, least, total)
	}
	for _, order := range append(allOrders(len(list)), impl.NearestOrder(list)) {
		way := impl.WayOf(list, order)
		if way < least || way == least && slices.Compare(order, shortest) < 0 {
			t.Errorf("ShortestOrder(%v) = %v is %d long, but %v is %d long", list, shortest, least, order, way)
		}
	}
}

// checkAllOrders compares the ways of all orders with those of a knife that goes step by step, and the orders that are found with all others.
func checkAllOrders(t *testing.T, list []impl.Cut) {
	t.Helper()
	for _, order := range allOrders(len(list)) {
		checkKnifeWay(t, list, order)
	}
	checkNearest(t, list, wantNearest(list))
	checkShortest(t, list, wantShortest(list))
	checkPromisedOrders(t, list)
}

// checkNoKnife expects that cuts are rejected by every function, in any order.
func checkNoKnife(t *testing.T, list []impl.Cut) {
	t.Helper()
	n := len(list)
	for _, order := range [][]int{nil, countTo(n), countTo(n - 1), countTo(n + 1), make([]int, n), {-1}} {
		checkLengthIs(t, list, order, -1)
	}
	checkNearest(t, list, nil)
	checkShortest(t, list, nil)
	checkTotal(t, list, 0)
}

// gridCuts returns all cuts in some rows between places up to a number.
func gridCuts(rows []int, places int) []impl.Cut {
	var list []impl.Cut
	for _, row := range rows {
		for from := range places {
			for to := from + 1; to <= places; to++ {
				list = append(list, impl.Cut{Row: row, From: from, To: to})
			}
		}
	}
	return list
}

// randomCuts returns n cuts in rows and between places up to a number.
func randomCuts(random *rand.Rand, n int, most int) []impl.Cut {
	list := make([]impl.Cut, n)
	for i := range list {
		from := random.Intn(most)
		list[i] = impl.Cut{Row: random.Intn(most + 1), From: from, To: from + 1 + random.Intn(most-from)}
	}
	return list
}

func TestCardsToCutOfAllSmallCards(t *testing.T) {
	for _, c := range smallCards() {
		checkCardToCut(t, c)
	}
	for _, frame := range [][3]int{{1, 1, 6}, {2, 2, 4}, {3, 2, 3}, {3, 3, 2}, {1, 4, 3}} {
		for _, c := range cardsOf(frame[0], frame[1], frame[2]) {
			checkCardToCut(t, c)
		}
	}
}

func TestCutsOfEveryNumberOfStrips(t *testing.T) {
	for n := 1; n <= maxStrips; n++ {
		for _, frame := range allFrames() {
			checkCardToCut(t, mixedCard(frame[0], frame[1], n))
			flat, high := impl.FlatStrip(frame[0], frame[1]), impl.HighStrip(frame[0], frame[1])
			checkCutsOf(t, cardOf(frame[0], frame[1], slices.Repeat([]string{high}, n)...), nil)
			// Flat and high strips by turns are cut from end to end.
			var want []impl.Cut
			for row := 1; row < n; row++ {
				want = append(want, impl.Cut{Row: row, From: 0, To: frame[0] + frame[1]})
			}
			checkCutsOf(t, cardOf(frame[0], frame[1], slices.Repeat([]string{flat, high}, maxStrips)[:n]...), want)
			// Only one strip is another one: it is cut from those beside it.
			for k := range n {
				strips := slices.Repeat([]string{flat}, n)
				strips[k] = high
				checkCardToCut(t, cardOf(frame[0], frame[1], strips...))
			}
		}
	}
}

func TestCutsOfCardsByHand(t *testing.T) {
	checkCutsText(t, "", cardOf(1, 1, "df"))
	checkCutsText(t, "", cardOf(1, 1, "fd", "fd"))
	checkCutsText(t, "1:0-2", cardOf(1, 1, "df", "fd"))
	checkCutsText(t, "1:0-2", cardOf(1, 1, "fd", "df"))
	checkCutsText(t, "1:0-2 2:0-2", cardOf(1, 1, "df", "fd", "df"))
	checkCutsText(t, "1:0-2", cardOf(1, 1, "df", "fd", "fd"))
	checkCutsText(t, "2:0-2", cardOf(1, 1, "df", "df", "fd"))
	checkCutsText(t, "1:1-3", cardOf(2, 2, "ddff", "dfdf", "dfdf"))
	checkCutsText(t, "2:1-3", cardOf(2, 2, "dfdf", "dfdf", "ddff"))
	checkCutsText(t, "1:0-4", cardOf(2, 2, "ddff", "ffdd"))
	// One part at the beginning and one at the end.
	checkCutsText(t, "1:0-2", cardOf(2, 3, "dfdff", "fddff"))
	checkCutsText(t, "1:3-5", cardOf(2, 3, "ffddf", "ffdfd"))
	checkCutsText(t, "1:0-2 1:3-5", cardOf(2, 3, "dffdf", "fdffd"))
	checkCutsText(t, "1:1-3 1:4-6", cardOf(3, 3, "ddffdf", "dfdffd"))
	checkCutsText(t, "1:0-2 1:3-5 1:6-8", cardOf(4, 4, "dfdfdffd", "fdddffdf"))
	// Where strips only meet in a point, there is one part.
	checkCutsText(t, "1:0-4", cardOf(2, 2, "dfdf", "fdfd"))
	// The parts of the first pair come before those of the next one, also where they lie farther on.
	checkCutsText(t, "1:0-2 1:3-5 2:0-2 2:3-5", cardOf(2, 3, "dffdf", "fdffd", "dffdf"))
	checkCutsText(t, "1:3-5 2:0-2", cardOf(2, 3, "dffdf", "dfffd", "fdffd"))
	checkCutsText(t, "1:0-2 2:3-5", cardOf(2, 3, "dffdf", "fdfdf", "fdffd"))
	checkCutsText(t, "1:1-6 3:0-4 3:5-7 4:0-7", impl.SampleCard())
	most := "df" + "f" + "df" + "d" + "fd" + "f" + "df" + "d" + "fd" + "df"
	other := "fd" + "f" + "fd" + "d" + "df" + "f" + "fd" + "d" + "df" + "df"
	checkCutsText(t, "1:0-2 1:3-5 1:6-8 1:9-11 1:12-14", cardOf(8, 8, most, other))
	checkCutsText(t, "1:0-16", cardOf(8, 8, strings.Repeat("df", 8), strings.Repeat("fd", 8)))
	checkCutsText(t, "1:0-16 2:0-16 3:0-16 4:0-16 5:0-16 6:0-16 7:0-16 8:0-16 9:0-16", cardOf(8, 8, slices.Repeat([]string{impl.HighStrip(8, 8), impl.FlatStrip(8, 8)}, 5)...))
	checkCutsText(t, "9:0-9", cardOf(8, 1, append(slices.Repeat([]string{"ddddddddf"}, 9), "fdddddddd")...))
}

func TestCutsOfCardsWithMostParts(t *testing.T) {
	most := "df" + "f" + "df" + "d" + "fd" + "f" + "df" + "d" + "fd" + "df"
	other := "fd" + "f" + "fd" + "d" + "df" + "f" + "fd" + "d" + "df" + "df"
	for n := 1; n <= maxStrips; n++ {
		c := cardOf(8, 8, slices.Repeat([]string{most, other}, maxStrips)[:n]...)
		checkCardToCut(t, c)
		list := impl.CutsOf(c)
		if len(list) != 5*(n-1) {
			t.Errorf("CutsOf(%s) has %d cuts", shortText(c), len(list))
		}
		checkTotal(t, list, 10*(n-1))
		if len(list) > maxWayCuts {
			checkTooMany(t, list)
		}
	}
}

func TestCutsOfCardsThatAreNotValid(t *testing.T) {
	for _, c := range append(allInvalidCards(), impl.Card{}, impl.Card{Down: 2, Forward: 2}, impl.Card{Down: 2, Forward: 2, Strips: []string{}}) {
		checkCutsOf(t, c, nil)
	}
	checkCutsOf(t, cardOf(2, 2, "ddff", "dfdf", "dff"), nil)
	checkCutsOf(t, cardOf(2, 2, "dff", "ddff", "dfdf"), nil)
	checkCutsOf(t, cardOf(2, 3, "ddff", "dfdf"), nil)
	checkCutsOf(t, cardOf(1, 1, slices.Repeat([]string{"df", "fd"}, 6)...), nil)
}

func TestWaysOfNoCuts(t *testing.T) {
	for _, list := range [][]impl.Cut{nil, {}, knifeCuts("1:0-2")[:0]} {
		for _, order := range [][]int{nil, {}, digitsOf("01")[:0]} {
			checkLengthIs(t, list, order, 0)
		}
		checkNearest(t, list, nil)
		checkShortest(t, list, nil)
		checkTotal(t, list, 0)
		for _, order := range [][]int{{0}, {-1}, {1}, {0, 0}, {0, 1}} {
			checkLengthIs(t, list, order, -1)
		}
		for _, n := range greatNumbers {
			checkLengthIs(t, list, []int{n}, -1)
		}
	}
}

func TestWaysOfOneCut(t *testing.T) {
	// From is always nearer to place 0.
	for row := range maxCutEnd + 1 {
		for from := range maxCutEnd {
			for to := from + 1; to <= maxCutEnd; to++ {
				list := []impl.Cut{{Row: row, From: from, To: to}}
				if way := impl.WayOf(list, []int{0}); way != row+to || impl.TotalCut(list) != to-from {
					t.Fatalf("WayOf(%v, [0]) = %d, TotalCut is %d", list, way, impl.TotalCut(list))
				}
			}
		}
	}
	for _, text := range []string{"0:0-1", "0:0-100", "0:99-100", "100:0-1", "100:0-100", "100:99-100", "3:2-6", "50:50-51"} {
		checkAllOrders(t, knifeCuts(text))
		checkNearest(t, knifeCuts(text), []int{0})
		checkShortest(t, knifeCuts(text), []int{0})
	}
	checkKnifeText(t, "0:0-1", "0", 1)
	checkKnifeText(t, "0:0-100", "0", 100)
	checkKnifeText(t, "0:99-100", "0", 100)
	checkKnifeText(t, "100:0-1", "0", 101)
	checkKnifeText(t, "100:99-100", "0", 200)
	checkKnifeText(t, "3:2-6", "0", 9)
}

func TestWaysToTheNearerEnd(t *testing.T) {
	checkKnifeText(t, "2:3-5 1:0-1", "01", 13)
	checkKnifeText(t, "2:3-5 1:0-1", "10", 7)
	// Behind the first cut, the knife is at 10: From, To and again From are nearer; the last cut shows where it went.
	checkKnifeText(t, "0:0-10 0:11-20 0:20-21", "012", 21)
	checkKnifeText(t, "0:0-10 0:2-8 0:1-2", "012", 19)
	checkKnifeText(t, "0:0-10 4:12-15 4:15-16", "012", 20)
	checkKnifeText(t, "0:0-10 4:2-9 4:1-2", "012", 23)
	checkKnifeText(t, "0:0-10 0:0-10 0:0-10", "012", 30)
	checkKnifeText(t, "0:0-10 0:9-20 0:20-21", "012", 23)
	checkKnifeText(t, "0:0-10 0:0-11 0:0-1", "012", 23)
	// The rows are passed in both directions.
	checkKnifeText(t, "5:0-3 2:3-4 9:4-5", "012", 20)
	checkKnifeText(t, "5:0-3 2:3-4 9:4-5", "021", 23)
	checkKnifeText(t, "5:0-3 2:3-4 9:4-5", "210", 29)
	// The steps along rows count as those along places.
	checkKnifeText(t, "0:0-10 7:10-11", "01", 18)
	checkKnifeText(t, "7:10-11 0:0-10", "01", 36)
}

func TestWaysToEndsThatAreEquallyFar(t *testing.T) {
	// The knife goes to From and is at To then, where the last cut begins.
	checkKnifeText(t, "0:0-5 0:3-7 0:7-8", "012", 12)
	checkKnifeText(t, "0:0-5 3:3-7 3:7-8", "012", 15)
	checkKnifeText(t, "3:0-5 0:3-7 0:7-8", "012", 18)
	checkKnifeText(t, "0:0-50 0:0-100 0:99-100", "012", 201)
	checkKnifeText(t, "1:0-3 1:2-4 1:4-6", "012", 9)
	// One step more or less, and there is one nearer end.
	checkKnifeText(t, "0:0-5 0:3-8 0:8-9", "012", 13)
	checkKnifeText(t, "0:0-5 0:3-6 0:2-3", "012", 10)
	checkKnifeText(t, "0:0-5 0:2-7 0:7-8", "012", 18)
	checkKnifeText(t, "0:0-5 0:2-7 0:1-2", "012", 13)
	checkKnifeText(t, "0:0-5 0:4-7 0:7-8", "012", 10)
	// The knife comes from the other side.
	checkKnifeText(t, "0:0-10 0:2-8 0:0-4 0:4-5", "0123", 25)
	// One such cut behind another.
	checkKnifeText(t, "0:0-5 0:3-7 0:6-8 0:7-9 0:9-10", "01234", 18)
	for middle := 1; middle < maxCutEnd; middle++ {
		for far := 1; far <= min(middle, maxCutEnd-middle); far++ {
			list := []impl.Cut{{Row: 3, From: 0, To: middle}, {Row: 1, From: middle - far, To: middle + far}, {Row: 1, From: 0, To: middle + far}}
			// The way: to row 3, along, two rows up and far places back, along, and along the last one at once.
			want := 3 + middle + 2 + far + 2*far + middle + far
			if way := impl.WayOf(list, []int{0, 1, 2}); way != want || wantLength(list, []int{0, 1, 2}) != want {
				t.Errorf("WayOf(%v, [0 1 2]) = %d, want %d", list, way, want)
			}
		}
	}
}

func TestWaysOnLinesAndAboveEachOther(t *testing.T) {
	checkKnifeText(t, "0:0-3 0:3-5 0:5-9", "012", 9)
	checkKnifeText(t, "0:0-3 0:3-5 0:5-9", "210", 18)
	checkKnifeText(t, "0:0-3 0:3-5 0:5-9", "021", 15)
	checkKnifeText(t, "0:0-3 0:3-5 0:5-9", "102", 19)
	checkKnifeText(t, "0:0-4 1:0-4 2:0-4", "012", 14)
	checkKnifeText(t, "0:0-4 1:0-4 2:0-4", "021", 15)
	checkKnifeText(t, "0:0-4 1:0-4 2:0-4", "210", 16)
	checkKnifeText(t, "0:1-2 0:4-6 0:9-10", "012", 10)
	checkKnifeText(t, "0:1-2 0:4-6 0:9-10", "210", 19)
	checkKnifeText(t, "3:2-6 3:2-6 3:2-6 3:2-6", "0123", 21)
	checkKnifeText(t, "3:2-6 3:2-6 3:2-6 3:2-6", "3120", 21)
	// Cuts may lie on parts of each other.
	checkKnifeText(t, "0:0-9 0:3-5", "01", 15)
	checkKnifeText(t, "0:0-9 0:3-5", "10", 18)
	checkKnifeText(t, "0:0-6 0:3-9", "01", 15)
}

func TestWaysAtTheEndsOfTheRange(t *testing.T) {
	checkKnifeText(t, "100:0-100 0:0-100", "01", 400)
	checkKnifeText(t, "100:0-100 0:0-100", "10", 300)
	checkKnifeText(t, "100:0-100 0:0-100 100:0-100 0:0-100 100:0-100 0:0-100 100:0-100 0:0-100", "01234567", 1600)
	checkKnifeText(t, "0:0-100 0:0-100 0:0-100 0:0-100 0:0-100 0:0-100 0:0-100 0:0-100", "76543210", 800)
	checkKnifeText(t, "0:0-1 100:99-100", "01", 200)
	checkKnifeText(t, "0:0-1 100:99-100", "10", 400)
	var corners []impl.Cut
	for _, row := range []int{0, 1, 99, 100} {
		corners = append(corners, knifeCuts(fmt.Sprintf("%d:0-1 %d:0-100 %d:1-99 %d:99-100 %d:49-51", row, row, row, row, row))...)
	}
	for _, list := range listsOf(corners, 2) {
		checkAllOrders(t, list)
	}
}

func TestWaysOfEightCuts(t *testing.T) {
	checkKnifeText(t, "0:0-9 1:0-9 2:0-9 3:0-9 4:0-9 5:0-9 6:0-9 7:0-9", "01234567", 79)
	checkKnifeText(t, "0:0-9 1:0-9 2:0-9 3:0-9 4:0-9 5:0-9 6:0-9 7:0-9", "76543210", 86)
	checkKnifeText(t, "0:0-1 0:1-2 0:2-3 0:3-4 0:4-5 0:5-6 0:6-7 0:7-8", "01234567", 8)
	checkKnifeText(t, "0:0-1 0:1-2 0:2-3 0:3-4 0:4-5 0:5-6 0:6-7 0:7-8", "76543210", 16)
	checkKnifeText(t, "0:0-1 0:1-2 0:2-3 0:3-4 0:4-5 0:5-6 0:6-7 0:7-8", "02461357", 20)
	random := rand.New(rand.NewSource(20))
	for n := range maxWayCuts + 1 {
		for _, most := range []int{1, 2, 5, 10, 30, maxCutEnd} {
			for range 400 {
				list := randomCuts(random, n, most)
				for range 3 {
					checkKnifeWay(t, list, random.Perm(n))
				}
				checkNearest(t, list, wantNearest(list))
			}
		}
	}
}

func TestOrdersOfAllShortLists(t *testing.T) {
	for _, list := range listsOf(gridCuts([]int{0, 1, 3}, 4), 2) {
		checkAllOrders(t, list)
	}
	for _, list := range listsOf(gridCuts([]int{0, 2}, 3), 3) {
		checkAllOrders(t, list)
	}
	for _, list := range listsOf(gridCuts([]int{0}, 4), 3) {
		checkAllOrders(t, list)
	}
	for _, list := range listsOf(gridCuts([]int{1, 2}, 2), 4) {
		checkAllOrders(t, list)
	}
}

func TestOrdersOfRandomCuts(t *testing.T) {
	random := rand.New(rand.NewSource(202))
	for n := range maxShortestCuts + 1 {
		for _, most := range []int{1, 2, 4, 8, 20, maxCutEnd} {
			for range 20 {
				checkAllOrders(t, randomCuts(random, n, most))
			}
		}
	}
}

func TestNearestOrders(t *testing.T) {
	checkNearestText(t, "2:3-5 1:0-1", "10", 7)
	checkNearestText(t, "1:0-1 2:3-5", "01", 7)
	// The nearest end is a From: by the nearest To, the order would be another one.
	checkNearestText(t, "0:0-10 0:11-30 0:14-15", "012", 46)
	checkNearestText(t, "0:14-15 0:11-30 0:0-10", "210", 46)
	// The nearest end is a To: by the nearest From, the order would be another one.
	checkNearestText(t, "0:0-10 0:1-9 0:13-14", "012", 32)
	checkNearestText(t, "0:13-14 0:1-9 0:0-10", "210", 32)
	// The nearest end is in another row, and then in the same row, although an end in another one has a nearer place.
	checkNearestText(t, "0:0-10 0:15-16 3:11-12", "021", 22)
	checkNearestText(t, "0:0-10 0:13-16 9:10-12", "012", 31)
	// Several ends are equally near: two of From, two of To, one of each, and both ends of one cut.
	checkNearestText(t, "0:3-4 1:2-3 2:1-2 3:0-1", "0123", 11)
	checkNearestText(t, "3:0-1 2:1-2 1:2-3 0:3-4", "0123", 10)
	checkNearestText(t, "0:0-10 2:1-9 0:1-7", "012", 29)
	checkNearestText(t, "0:0-10 0:1-7 2:1-9", "012", 29)
	checkNearestText(t, "0:0-5 0:7-9 0:2-3", "012", 16)
	checkNearestText(t, "0:0-5 0:2-3 0:7-9", "012", 15)
	checkNearestText(t, "0:0-5 0:3-7 0:8-9 0:1-2", "0123", 21)
	checkNearestText(t, "0:0-5 0:1-2 0:8-9 0:3-7", "0321", 21)
	// The first one of those that are left.
	checkNearestText(t, "0:4-5 0:4-5 0:0-2 0:4-5 0:0-2", "24013", 11)
	// The nearest cut changes with the place.
	checkNearestText(t, "0:1-20 3:0-1 0:21-22", "021", 47)
	checkNearestText(t, "0:21-22 3:0-1 0:1-20", "201", 47)
	checkNearestText(t, "1:0-1 2:8-9 3:0-7 3:8-9", "0231", 16)
	// One list in several orders.
	checkNearestText(t, "1:1-6 3:0-4 3:5-7 4:0-7", "0231", 25)
	checkNearestText(t, "4:0-7 3:5-7 3:0-4 1:1-6", "3102", 25)
	checkNearestText(t, "3:5-7 4:0-7 1:1-6 3:0-4", "2013", 25)
}

func TestNearestOrdersOfEqualCuts(t *testing.T) {
	for n := range maxWayCuts + 1 {
		for _, cut := range knifeCuts("0:0-1 0:0-100 3:2-6 100:99-100 100:0-100") {
			checkNearest(t, slices.Repeat([]impl.Cut{cut}, n), countTo(n))
		}
		// Of two kinds by turns, all of one come first.
		var want []int
		for i := 0; i < n; i += 2 {
			want = append(want, i)
		}
		for i := 1; i < n; i += 2 {
			want = append(want, i)
		}
		checkNearest(t, slices.Repeat(knifeCuts("2:3-4 9:9-10"), maxWayCuts)[:n], want)
	}
}

func TestNearestOrdersOfEightCuts(t *testing.T) {
	for _, order := range allOrders(maxWayCuts) {
		// The cuts lie on one line, one behind the other, in this order of the list.
		list := make([]impl.Cut, maxWayCuts)
		for place, i := range order {
			list[i] = impl.Cut{Row: 2, From: 3 * place, To: 3*place + 2}
		}
		if got := impl.NearestOrder(list); !slices.Equal(got, order) {
			t.Fatalf("NearestOrder(%v) = %v, want %v", list, got, order)
		}
		if way := impl.WayOf(list, order); way != 2+23 {
			t.Fatalf("WayOf(%v, %v) = %d", list, order, way)
		}
	}
}

func TestNearestOrdersThatAreNotTheShortest(t *testing.T) {
	for _, text := range []string{"0:2-20 3:0-1", "0:3-4 4:0-1 0:5-30", "0:1-20 3:0-1 0:21-22", "1:0-9 0:2-3"} {
		list := knifeCuts(text)
		nearest, shortest := impl.NearestOrder(list), impl.ShortestOrder(list)
		if impl.WayOf(list, nearest) <= impl.WayOf(list, shortest) {
			t.Errorf("of %s, the nearest order %v is not longer than the shortest one, %v", text, nearest, shortest)
		}
		checkAllOrders(t, list)
	}
	checkNearestText(t, "0:2-20 3:0-1", "01", 43)
	checkShortestText(t, "0:2-20 3:0-1", "10", 26)
	checkNearestText(t, "1:0-9 0:2-3", "01", 18)
	checkShortestText(t, "1:0-9 0:2-3", "10", 16)
}

func TestShortestOrders(t *testing.T) {
	checkShortestText(t, "2:3-5 1:0-1", "10", 7)
	checkShortestText(t, "1:0-1 2:3-5", "01", 7)
	checkShortestText(t, "0:0-3 0:3-5 0:5-9", "012", 9)
	checkShortestText(t, "0:5-9 0:3-5 0:0-3", "210", 9)
	checkShortestText(t, "0:3-5 0:5-9 0:0-3", "201", 9)
	checkShortestText(t, "5:0-9 4:0-9 3:0-9 2:0-9 1:0-9 0:0-9", "543210", 59)
	checkShortestText(t, "2:0-9 4:0-9 0:0-9 5:0-9 1:0-9 3:0-9", "240513", 59)
	// The way back from the end of the first cut is longer than that to the second one at the beginning.
	checkShortestText(t, "0:1-100 1:0-1", "10", 102)
	checkShortestText(t, "0:1-100 100:0-1", "01", 300)
}

func TestShortestOrdersThatAreNotTheOnlyOnes(t *testing.T) {
	// The other order of both cuts is as short.
	checkShortestText(t, "0:0-3 1:0-1", "01", 7)
	checkKnifeText(t, "0:0-3 1:0-1", "10", 7)
	checkShortestText(t, "1:0-1 0:0-3", "01", 7)
	checkKnifeText(t, "1:0-1 0:0-3", "10", 7)
	// Neither the first order nor the last one, but two others.
	checkShortestText(t, "0:1-2 0:0-3 1:1-3", "102", 8)
	checkKnifeText(t, "0:1-2 0:0-3 1:1-3", "120", 8)
	checkShortestText(t, "0:0-2 1:0-1 0:1-3", "120", 8)
	checkKnifeText(t, "0:0-2 1:0-1 0:1-3", "201", 8)
	checkShortestText(t, "0:4-5 0:0-2 0:4-5", "102", 6)
	checkKnifeText(t, "0:4-5 0:0-2 0:4-5", "120", 6)
	checkShortestText(t, "0:4-5 0:4-5 0:0-2", "201", 6)
	checkKnifeText(t, "0:4-5 0:4-5 0:0-2", "210", 6)
	for n := range maxShortestCuts + 1 {
		for _, cut := range knifeCuts("0:0-1 0:0-100 3:2-6 100:99-100 100:0-100") {
			list := slices.Repeat([]impl.Cut{cut}, n)
			checkShortest(t, list, countTo(n))
			checkPromisedOrders(t, list)
			for _, order := range allOrders(n) {
				// The knife goes to and fro along the cut.
				want := cut.Row + cut.From + n*(cut.To-cut.From)
				if n > 0 && impl.WayOf(list, order) != want {
					t.Errorf("WayOf(%v, %v) = %d, want %d", list, order, impl.WayOf(list, order), want)
				}
			}
		}
	}
}

// TestShortestOrdersAreAllOrders expects that each order of a list can be the shortest one.
func TestShortestOrdersAreAllOrders(t *testing.T) {
	for n := range maxShortestCuts + 1 {
		for _, order := range allOrders(n) {
			list := make([]impl.Cut, n)
			for place, i := range order {
				list[i] = impl.Cut{Row: 0, From: 3 * place, To: 3*place + 3}
			}
			if got := impl.ShortestOrder(list); !slices.Equal(got, order) || impl.WayOf(list, got) != 3*n || impl.TotalCut(list) != 3*n {
				t.Fatalf("ShortestOrder(%v) = %v, want %v", list, got, order)
			}
		}
	}
}

func TestTotals(t *testing.T) {
	checkTotal(t, nil, 0)
	checkTotal(t, knifeCuts("2:3-5 1:0-1"), 3)
	checkTotal(t, knifeCuts("0:0-1"), 1)
	checkTotal(t, knifeCuts("0:0-100"), 100)
	checkTotal(t, knifeCuts("100:99-100"), 1)
	checkTotal(t, knifeCuts("1:0-1 2:0-2 3:0-3 4:0-4 5:0-5 6:0-6 7:0-7 8:0-8"), 36)
	checkTotal(t, knifeCuts("5:3-7 5:3-7"), 8)
	for _, n := range []int{7, 8, 9, 10, 255, 256, 257, 1000, 100000} {
		checkTotal(t, slices.Repeat(knifeCuts("100:0-100"), n), 100*n)
		checkTotal(t, slices.Repeat(knifeCuts("0:41-44 7:0-2"), n), 5*n)
	}
	random := rand.New(rand.NewSource(2020))
	for n := range 60 {
		list, want := randomCuts(random, n, maxCutEnd), 0
		for _, cut := range list {
			for place := cut.From; place < cut.To; place++ {
				want++
			}
		}
		checkTotal(t, list, want)
	}
}

// checkTooMany expects that there is no way of so many valid cuts, and that their lengths are added all the same.
func checkTooMany(t *testing.T, list []impl.Cut) {
	t.Helper()
	n := len(list)
	for _, order := range [][]int{nil, {}, countTo(n), countTo(n - 1), countTo(maxWayCuts), {0}} {
		checkLengthIs(t, list, order, -1)
	}
	checkNearest(t, list, nil)
	checkShortest(t, list, nil)
	total := 0
	for _, cut := range list {
		total += cut.To - cut.From
	}
	checkTotal(t, list, total)
}

func TestTooManyCuts(t *testing.T) {
	random := rand.New(rand.NewSource(99))
	for _, n := range []int{maxWayCuts + 1, maxWayCuts + 2, 16, 255, 256, 256 + 2, 10000} {
		for _, most := range []int{1, 5, maxCutEnd} {
			checkTooMany(t, randomCuts(random, n, most))
		}
		checkTooMany(t, slices.Repeat(knifeCuts("0:0-1"), n))
	}
	// There is a way of 7 and of 8 cuts, but the shortest one is not looked for.
	for n := maxShortestCuts + 1; n <= maxWayCuts; n++ {
		for _, most := range []int{1, 5, maxCutEnd} {
			list := randomCuts(random, n, most)
			checkShortest(t, list, nil)
			checkNearest(t, list, wantNearest(list))
			checkKnifeWay(t, list, countTo(n))
		}
		checkShortest(t, slices.Repeat(knifeCuts("0:0-1"), n), nil)
		checkNearest(t, slices.Repeat(knifeCuts("0:0-1"), n), countTo(n))
	}
	checkShortest(t, slices.Repeat(knifeCuts("0:0-1"), maxShortestCuts), countTo(maxShortestCuts))
}

// wrongCuts returns cuts that are not valid.
func wrongCuts() []impl.Cut {
	var list []impl.Cut
	for _, n := range numbersOutside(0, maxCutEnd) {
		list = append(list, impl.Cut{Row: n, From: 3, To: 7}, impl.Cut{Row: 2, From: n, To: 7}, impl.Cut{Row: 2, From: 3, To: n}, impl.Cut{Row: n, From: n, To: n})
		// Here most of the cuts are one step long, but outside of the range.
		list = append(list, impl.Cut{Row: 2, From: n, To: n + 1}, impl.Cut{Row: 2, From: n - 1, To: n}, impl.Cut{Row: n, From: 0, To: maxCutEnd}, impl.Cut{Row: n, From: n - 1, To: n}, impl.Cut{Row: 0, From: n, To: maxCutEnd}, impl.Cut{Row: maxCutEnd, From: 0, To: n})
	}
	for _, row := range []int{0, 2, maxCutEnd} {
		for _, ends := range [][2]int{{0, 0}, {1, 1}, {50, 50}, {maxCutEnd, maxCutEnd}, {1, 0}, {7, 3}, {7, 6}, {maxCutEnd, 0}, {maxCutEnd, maxCutEnd - 1}} {
			list = append(list, impl.Cut{Row: row, From: ends[0], To: ends[1]})
		}
	}
	return list
}

func TestCutsThatAreNotValid(t *testing.T) {
	good := knifeCuts("0:0-1 100:0-100 3:2-6 100:99-100 2:3-7 0:0-100 1:1-2 50:40-60")
	for _, wrong := range append(wrongCuts(), impl.Cut{}) {
		for n := range maxWayCuts {
			for _, at := range []int{0, n / 2, n} {
				list := slices.Insert(slices.Clone(good[:n]), at, wrong)
				checkNoKnife(t, list)
			}
		}
		for _, at := range []int{0, 4, 8} {
			checkNoKnife(t, slices.Insert(slices.Clone(good), at, wrong))
		}
	}
	checkNoKnife(t, knifeCuts("-1:0-1"))
	checkNoKnife(t, knifeCuts("101:0-1"))
	checkNoKnife(t, knifeCuts("0:100-101"))
	checkNoKnife(t, knifeCuts("1:2-2"))
	checkNoKnife(t, knifeCuts("1:3-2"))
	checkNoKnife(t, []impl.Cut{{Row: 1, From: -1, To: 1}})
	checkNoKnife(t, []impl.Cut{{Row: 1, From: -3, To: -2}})
}

func TestTotalsOfManyCutsWithOneThatIsNotValid(t *testing.T) {
	for _, n := range []int{9, 10, 100, 1000} {
		for _, wrong := range append(wrongCuts(), impl.Cut{}) {
			for _, at := range []int{0, 1, n / 2, n - 1} {
				list := slices.Repeat(knifeCuts("7:2-6"), n)
				list[at] = wrong
				if total := impl.TotalCut(list); total != 0 {
					t.Fatalf("TotalCut of %d cuts with %v at %d is %d", n, wrong, at, total)
				}
			}
		}
	}
}

// wrongOrders returns orders that do not contain each of n indexes once.
func wrongOrders(n int) [][]int {
	good := countTo(n)
	var orders [][]int
	for k := range n {
		orders = append(orders, good[:k], good[n-k:], slices.Delete(slices.Clone(good), k, k+1))
		for _, wrong := range append(numbersOutside(0, n-1), good...) {
			if wrong != k {
				order := slices.Clone(good)
				order[k] = wrong
				orders = append(orders, order)
			}
		}
	}
	for at := range n + 1 {
		for _, more := range append(numbersOutside(0, n-1), good...) {
			orders = append(orders, slices.Insert(slices.Clone(good), at, more))
		}
	}
	return append(orders, slices.Concat(good, []int{n, n}), slices.Concat([]int{0}, good, good), make([]int, n+1), make([]int, 100000), countTo(100000))
}

func TestOrdersThatAreNotValid(t *testing.T) {
	list := knifeCuts("0:0-1 100:0-100 3:2-6 100:99-100 2:3-7 0:0-100 1:1-2 50:40-60")
	for n := range maxWayCuts + 1 {
		for _, order := range wrongOrders(n) {
			checkLengthIs(t, list[:n], order, -1)
		}
		if n > 0 {
			checkLengthIs(t, list[:n], nil, -1)
			checkLengthIs(t, list[:n], []int{}, -1)
		}
		checkKnifeWay(t, list[:n], countTo(n))
		checkKnifeWay(t, list[:n], reversedNumbers(n))
	}
	checkKnifeText(t, "2:3-5 1:0-1", "00", -1)
	checkKnifeText(t, "2:3-5 1:0-1", "11", -1)
	checkKnifeText(t, "2:3-5 1:0-1", "12", -1)
	checkKnifeText(t, "2:3-5 1:0-1", "0", -1)
	checkKnifeText(t, "2:3-5 1:0-1", "010", -1)
	checkKnifeText(t, "2:3-5 1:0-1 2:3-5", "002", -1)
	checkKnifeText(t, "2:3-5 1:0-1 2:3-5", "112", -1)
}

// reversedNumbers returns the numbers from n - 1 down to 0.
func reversedNumbers(n int) []int {
	numbers := countTo(n)
	slices.Reverse(numbers)
	return numbers
}

// TestAllListsOfNumbersAsOrders expects that a list of numbers is an order just if it has each index.
func TestAllListsOfNumbersAsOrders(t *testing.T) {
	list := knifeCuts("0:3-9 4:0-2 1:5-6 7:7-8")
	for n := range 5 {
		orders := allOrders(n)
		for _, numbers := range listsOf([]int{-1, 0, 1, 2, 3, 4}, 5) {
			want := -1
			if slices.ContainsFunc(orders, func(order []int) bool { return slices.Equal(order, numbers) }) {
				want = wantLength(list[:n], numbers)
			}
			checkLengthIs(t, list[:n], numbers, want)
		}
	}
}

func TestWaysOfTheCutsOfCards(t *testing.T) {
	list := impl.CutsOf(impl.SampleCard())
	checkLengthIs(t, list, []int{0, 1, 2, 3}, 30)
	checkNearest(t, list, []int{0, 2, 3, 1})
	checkTotal(t, list, 18)
	checkAllOrders(t, list)
	for n := 1; n <= maxStrips; n++ {
		for _, frame := range [][2]int{{1, 1}, {2, 3}, {4, 4}, {maxSteps, 1}} {
			list := impl.CutsOf(mixedCard(frame[0], frame[1], n))
			if len(list) > maxWayCuts {
				checkTooMany(t, list)
				continue
			}
			checkKnifeWay(t, list, countTo(len(list)))
			checkNearest(t, list, wantNearest(list))
			if len(list) <= maxShortestCuts {
				checkAllOrders(t, list)
			}
		}
	}
}

func TestOrdersShareNoMemory(t *testing.T) {
	c := impl.SampleCard()
	list := impl.CutsOf(c)
	before := slices.Clone(list)
	nearest, shortest := impl.NearestOrder(list), impl.ShortestOrder(list)
	checkApart(t, nearest, shortest, impl.NearestOrder(list), impl.ShortestOrder(list))
	checkApart(t, list, impl.CutsOf(c), impl.CutsOf(c))
	// What an order is changed to does not change the way of another one, nor do the cuts when they are changed.
	way := impl.WayOf(list, nearest)
	shortest[0], shortest[1] = 77, -77
	if longer := append(shortest, 5); !slices.Equal(impl.NearestOrder(list), nearest) || impl.WayOf(list, nearest) != way || impl.WayOf(list, longer) != -1 {
		t.Errorf("a change of one order changes the other one, %v", nearest)
	}
	list[0] = impl.Cut{Row: 55, From: 1, To: 2}
	if !slices.Equal(impl.CutsOf(c), before) || !isEqualCard(c, impl.SampleCard()) {
		t.Errorf("a change of the cuts changes those of the card: %v", impl.CutsOf(c))
	}
	if longer := append(list, knifeCuts("1:1-2 3:3-4")...); len(longer) != 6 || !slices.Equal(impl.CutsOf(c), before) {
		t.Errorf("more cuts change those of the card: %v", impl.CutsOf(c))
	}
	// Parts of longer lists are left alone, with what is before and behind them.
	cuts, numbers := knifeCuts("9:9-10 2:3-5 1:0-1 8:8-9"), []int{7, 1, 0, 7}
	if impl.WayOf(cuts[1:3], numbers[1:3]) != 7 || !slices.Equal(impl.NearestOrder(cuts[1:3]), []int{1, 0}) || !slices.Equal(impl.ShortestOrder(cuts[1:3]), []int{1, 0}) || impl.TotalCut(cuts[1:3]) != 3 {
		t.Error("parts of longer lists lead to other results")
	}
	if !slices.Equal(cuts, knifeCuts("9:9-10 2:3-5 1:0-1 8:8-9")) || !slices.Equal(numbers, []int{7, 1, 0, 7}) {
		t.Errorf("the lists were changed to %v and %v", cuts, numbers)
	}
}
