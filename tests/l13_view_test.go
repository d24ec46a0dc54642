package tests

import (
	"math"
	"math/bits"
	"slices"
	"strings"
	"testing"

	"loop.example/g03305/impl"
)

// wantHeights counts the squares above each other at each distance from the upright page.
func wantHeights(s string) []int {
	var heights []int
	for x := range strings.Count(s, "f") {
		heights = append(heights, bits.OnesCount8(uint8(squaresUnder(s)>>(maxSteps*x))))
	}
	return heights
}

// wantDepths counts the squares one before the other at each height, from the top on.
func wantDepths(s string) []int {
	const lowest = 0x0101010101010101
	var depths []int
	for y := strings.Count(s, "d") - 1; y >= 0; y-- {
		depths = append(depths, bits.OnesCount64(squaresUnder(s)&(lowest<<y)))
	}
	return depths
}

// wantFromHeights returns the strip over columns of these heights; "" if there are columns that no strip has.
func wantFromHeights(down int, heights []int) string {
	if down < 1 || down > maxSteps || len(heights) < 1 || len(heights) > maxSteps || slices.Min(heights) < 0 || slices.Max(heights) > down {
		return ""
	}
	squares := uint64(0)
	for x, height := range heights {
		if slices.Max(heights[x:]) > height {
			return ""
		}
		squares |= (1<<height - 1) << (maxSteps * x)
	}
	return stripOver(down, len(heights), squares)
}

// wantSteps counts the columns in which the squares under a strip and those under the one before it differ.
func wantSteps(strips []string) int {
	count := 0
	for k := 1; k < len(strips); k++ {
		differ := squaresUnder(strips[k-1]) ^ squaresUnder(strips[k])
		for x := range maxSteps {
			if differ>>(maxSteps*x)&0xff != 0 {
				count++
			}
		}
	}
	return count
}

// stripsOfEveryFrame returns all strips of small frames and some of the greater ones.
func stripsOfEveryFrame() []string {
	var strips []string
	for _, frame := range allFrames() {
		n := 1
		if frame[0]+frame[1] > 10 {
			n = 13
		}
		strips = append(strips, someStrips(frame[0], frame[1], n)...)
		strips = append(strips, nearlyHighStrips(frame[0], frame[1])...)
	}
	return strips
}

func sumOf(numbers []int) int {
	sum := 0
	for _, n := range numbers {
		sum += n
	}
	return sum
}

// numbersWithSpare returns an equal list with more numbers in the memory behind its own ones, and all these numbers.
func numbersWithSpare(list []int) ([]int, []int) {
	all := slices.Concat(list, []int{-77, 77, 7})
	return all[:len(list)], all
}

// checkSeenIs expects these heights and depths of a strip, in memory of their own.
func checkSeenIs(t *testing.T, s string, heights []int, depths []int) {
	t.Helper()
	// The lists of the first round are overwritten, which the second one must not see.
	for range 2 {
		gotHeights, gotDepths := impl.HeightsOf(s), impl.DepthsOf(s)
		if !slices.Equal(gotHeights, heights) {
			t.Errorf("HeightsOf(%.40q) = %d, want %d", s, gotHeights, heights)
		}
		if !slices.Equal(gotDepths, depths) {
			t.Errorf("DepthsOf(%.40q) = %d, want %d", s, gotDepths, depths)
		}
		overwriteApart(t, [][]int{gotHeights, gotDepths, impl.HeightsOf(s), impl.DepthsOf(s)})
	}
}

// checkHeights expects this strip of these heights, and that the list and the memory behind it are left alone.
func checkHeights(t *testing.T, down int, heights []int, want string) {
	t.Helper()
	given, all := numbersWithSpare(heights)
	before := slices.Clone(all)
	for range 2 {
		if got := impl.FromHeights(down, given); got != want {
			t.Errorf("FromHeights(%d, %.40d) = %q, want %q", down, heights, got, want)
		}
	}
	if !slices.Equal(all, before) {
		t.Errorf("FromHeights(%d, %.40d) changed its list or the memory behind it to %.40d", down, heights, all)
	}
}

func checkNoHeights(t *testing.T, down int, heights ...int) {
	t.Helper()
	checkHeights(t, down, heights, "")
}

// checkStripOf compares the strip of some heights with the squares of these heights, and looks at it from above again.
func checkStripOf(t *testing.T, down int, heights []int) {
	t.Helper()
	want := wantFromHeights(down, heights)
	checkHeights(t, down, heights, want)
	if want == "" {
		return
	}
	checkStrip(t, want, down, len(heights))
	if got := impl.HeightsOf(impl.FromHeights(down, heights)); !slices.Equal(got, heights) {
		t.Errorf("the strip %q of the heights %d has the heights %d", want, heights, got)
	}
}

// checkPromisedSums expects that the heights and the depths of a strip have the same sum, which is its room.
func checkPromisedSums(t *testing.T, s string) {
	t.Helper()
	heights, depths := sumOf(impl.HeightsOf(s)), sumOf(impl.DepthsOf(s))
	if heights != depths {
		t.Errorf("the heights %d and the depths %d of %q have different sums", impl.HeightsOf(s), impl.DepthsOf(s), s)
	}
	checkRoomIs(t, s, heights)
}

// checkTwoViews expects these heights and depths of a strip, and the exchanged ones of the turned strip.
func checkTwoViews(t *testing.T, s string, heights []int, depths []int) {
	t.Helper()
	checkSeenIs(t, s, heights, depths)
	checkHeights(t, len(depths), heights, s)
	turnedHeights, turnedDepths := slices.Clone(depths), slices.Clone(heights)
	slices.Reverse(turnedHeights)
	slices.Reverse(turnedDepths)
	checkSeenIs(t, wantTurned(s), turnedHeights, turnedDepths)
	checkHeights(t, len(heights), turnedHeights, wantTurned(s))
	checkPromisedSums(t, s)
}

// checkSeen compares what is seen of a strip with the squares under it.
func checkSeen(t *testing.T, s string) {
	t.Helper()
	checkTwoViews(t, s, wantHeights(s), wantDepths(s))
	checkStripOf(t, strings.Count(s, "d"), wantHeights(s))
}

func checkNotSeen(t *testing.T, s string) {
	t.Helper()
	checkSeenIs(t, s, nil, nil)
}

// table is a function that returns a list for each strip of a card, and the lists that it should return.
type table struct {
	name string
	run  func(c impl.Card) [][]int
	want [][]int
}

// checkTables expects the lists of all tables of a card, each one in memory of its own.
func checkTables(t *testing.T, c impl.Card, tables ...table) {
	t.Helper()
	checkLeft(t, c, func(c impl.Card) {
		// The lists of the first round are overwritten, which the second one must not see.
		for range 2 {
			var all [][][]int
			for _, f := range tables {
				got, again := f.run(c), f.run(c)
				if !slices.EqualFunc(got, f.want, slices.Equal) || !slices.EqualFunc(again, f.want, slices.Equal) {
					t.Errorf("%s(%s) = %d and %d, want %d", f.name, shortText(c), got, again, f.want)
				}
				all = append(all, got, again)
			}
			checkApart(t, all...)
			var lists [][]int
			for _, got := range all {
				lists = append(lists, got[:cap(got)]...)
				clear(got[:cap(got)])
			}
			overwriteApart(t, lists)
		}
	})
}

// checkViewsAre expects these views of a card and this number of steps between its strips.
func checkViewsAre(t *testing.T, c impl.Card, top [][]int, front [][]int, steps int) {
	t.Helper()
	checkTables(t, c, table{"TopView", impl.TopView, top}, table{"FrontView", impl.FrontView, front})
	checkSteps(t, c, steps)
}

func checkSteps(t *testing.T, c impl.Card, want int) {
	t.Helper()
	checkLeft(t, c, func(c impl.Card) {
		if got := impl.CountSteps(c); got != want {
			t.Errorf("CountSteps(%s) = %d, want %d", shortText(c), got, want)
		}
	})
}

// checkViews compares the views of a valid card with the squares under its strips.
func checkViews(t *testing.T, c impl.Card) {
	t.Helper()
	var top, front [][]int
	for _, s := range c.Strips {
		top, front = append(top, wantHeights(s)), append(front, wantDepths(s))
	}
	checkViewsAre(t, c, top, front, wantSteps(c.Strips))
	checkPromisedViews(t, c)
}

// checkPromisedViews expects that the views of a valid card have the same sum, and that each strip can be made from its heights.
func checkPromisedViews(t *testing.T, c impl.Card) {
	t.Helper()
	top, front := impl.TopView(c), impl.FrontView(c)
	if sumOf(slices.Concat(top...)) != sumOf(slices.Concat(front...)) {
		t.Errorf("the views %d and %d of %v have different sums", top, front, c)
	}
	checkVolume(t, c, sumOf(slices.Concat(top...)))
	if len(top) != len(c.Strips) || len(front) != len(c.Strips) {
		t.Fatalf("%v is seen as %d from above and as %d from the front", c, top, front)
	}
	for k, s := range c.Strips {
		if sumOf(top[k]) != sumOf(front[k]) {
			t.Errorf("strip %d of %v is seen as %d from above and as %d from the front", k, c, top[k], front[k])
		}
		checkHeights(t, c.Down, top[k], s)
	}
	checkSteps(t, impl.MirrorCard(c), impl.CountSteps(c))
}

func checkNoViews(t *testing.T, c impl.Card) {
	t.Helper()
	checkViewsAre(t, c, nil, nil, -1)
}

func TestViewsOfAllShortWords(t *testing.T) {
	checkWords(t, 10, checkSeen, checkNotSeen)
}

func TestViewsOfStripsOfEveryFrame(t *testing.T) {
	for _, s := range stripsOfEveryFrame() {
		checkSeen(t, s)
	}
}

func TestHeightsAndDepthsHaveTheSameSum(t *testing.T) {
	for _, frame := range allFrames() {
		down, forward := frame[0], frame[1]
		for _, s := range stripsOf(down, forward) {
			checkPromisedSums(t, s)
			heights, depths := impl.HeightsOf(s), impl.DepthsOf(s)
			if len(heights) != forward || len(depths) != down || impl.FromHeights(down, heights) != s {
				t.Errorf("%q has the heights %d and the depths %d, and the strip of these heights is %q", s, heights, depths, impl.FromHeights(down, heights))
			}
		}
	}
}

func TestViewsOfFlatAndHighStrips(t *testing.T) {
	for _, frame := range allFrames() {
		down, forward := frame[0], frame[1]
		checkTwoViews(t, impl.FlatStrip(down, forward), make([]int, forward), make([]int, down))
		checkTwoViews(t, impl.HighStrip(down, forward), slices.Repeat([]int{down}, forward), slices.Repeat([]int{forward}, down))
	}
}

func TestViewsOfSomeStrips(t *testing.T) {
	checkTwoViews(t, "df", []int{0}, []int{0})
	checkTwoViews(t, "fd", []int{1}, []int{1})
	checkTwoViews(t, "dfd", []int{1}, []int{0, 1})
	checkTwoViews(t, "fdf", []int{1, 0}, []int{1})
	checkTwoViews(t, "dfdf", []int{1, 0}, []int{0, 1})
	checkTwoViews(t, "fdfd", []int{2, 1}, []int{1, 2})
	checkTwoViews(t, "fddf", []int{2, 0}, []int{1, 1})
	checkTwoViews(t, "dffd", []int{1, 1}, []int{0, 2})
	// With more steps down than forward, and with fewer ones.
	checkTwoViews(t, "dfddfdd", []int{4, 2}, []int{0, 1, 1, 2, 2})
	checkTwoViews(t, "fddddfd", []int{5, 1}, []int{1, 1, 1, 1, 2})
	checkTwoViews(t, "fffdffd", []int{2, 2, 2, 1, 1}, []int{3, 5})
	checkTwoViews(t, "dfdffff", []int{1, 0, 0, 0, 0}, []int{0, 1})
	// With several steps of one kind one after the other.
	checkTwoViews(t, "ddffdddff", []int{3, 3, 0, 0}, []int{0, 0, 2, 2, 2})
	checkTwoViews(t, "ffdddffddf", []int{5, 5, 2, 2, 0}, []int{2, 2, 2, 4, 4})
	checkTwoViews(t, "dfffdddfd", []int{4, 4, 4, 1}, []int{0, 3, 3, 3, 4})
	checkTwoViews(t, "ffddffd", []int{3, 3, 1, 1}, []int{2, 2, 4})
	checkTwoViews(t, "dfdffdf", []int{2, 1, 1, 0}, []int{0, 1, 3})
	// With one step of a kind, and the greatest number of the other one.
	checkTwoViews(t, "dddfddddd", []int{5}, []int{0, 0, 0, 1, 1, 1, 1, 1})
	checkTwoViews(t, "ddddddddf", []int{0}, []int{0, 0, 0, 0, 0, 0, 0, 0})
	checkTwoViews(t, "fdddddddd", []int{8}, []int{1, 1, 1, 1, 1, 1, 1, 1})
	checkTwoViews(t, "fffdfffff", []int{1, 1, 1, 0, 0, 0, 0, 0}, []int{3})
	checkTwoViews(t, "dffffffff", []int{0, 0, 0, 0, 0, 0, 0, 0}, []int{0})
	checkTwoViews(t, "ffffffffd", []int{1, 1, 1, 1, 1, 1, 1, 1}, []int{8})
	// Of the greatest frame.
	checkTwoViews(t, strings.Repeat("df", maxSteps), []int{7, 6, 5, 4, 3, 2, 1, 0}, []int{0, 1, 2, 3, 4, 5, 6, 7})
	checkTwoViews(t, strings.Repeat("fd", maxSteps), []int{8, 7, 6, 5, 4, 3, 2, 1}, []int{1, 2, 3, 4, 5, 6, 7, 8})
	checkTwoViews(t, "ddffffdddddffffd", []int{6, 6, 6, 6, 1, 1, 1, 1}, []int{0, 0, 4, 4, 4, 4, 4, 8})
}

func TestOtherTextsAreNotSeen(t *testing.T) {
	for _, s := range otherTexts() {
		checkNotSeen(t, s)
	}
	for n := 1; n <= maxSteps+1; n++ {
		checkNotSeen(t, strings.Repeat("d", n))
		checkNotSeen(t, strings.Repeat("f", n))
		checkNotSeen(t, strings.Repeat("d", maxSteps+n)+"f")
		checkNotSeen(t, "f"+strings.Repeat("d", maxSteps+n))
		checkNotSeen(t, strings.Repeat("f", maxSteps+n)+"d")
		checkNotSeen(t, "d"+strings.Repeat("f", maxSteps+n))
	}
	for _, s := range []string{"\xff", "fxd", "xdf", "d f", "FD", "fd\n", strings.Repeat("fd", maxSteps+1)} {
		checkNotSeen(t, s)
	}
}

func TestASquareThatIsAddedIsSeenFromBothSides(t *testing.T) {
	for _, s := range slices.Concat(stripsOf(3, 4), stripsOf(5, 2), stripsOf(1, maxSteps), stripsOf(maxSteps, 1), someStrips(maxSteps, maxSteps, 101)) {
		for _, k := range impl.RaisesOf(s) {
			raised, _ := impl.RaiseAt(s, k)
			// The step forward of the valley is the one after as many others as there are before it, and so is the step down.
			heights, depths := impl.HeightsOf(s), impl.DepthsOf(s)
			heights[strings.Count(s[:k], "f")]++
			depths[strings.Count(s[:k-1], "d")]++
			checkSeenIs(t, raised, heights, depths)
		}
	}
}

func TestStripsOfAllShortListsOfHeights(t *testing.T) {
	for _, heights := range listsOf([]int{-1, 0, 1, 2, 3, 4}, 4) {
		for down := -1; down <= 4; down++ {
			checkStripOf(t, down, heights)
		}
	}
	for _, heights := range listsOf([]int{0, 1, 2}, 7) {
		for down := range 4 {
			checkStripOf(t, down, heights)
		}
	}
}

func TestAllStripsOfAFrameHaveTheirOwnHeights(t *testing.T) {
	for _, frame := range [][2]int{{1, 1}, {1, 5}, {2, 4}, {3, 3}, {4, 2}, {maxSteps, 1}, {maxSteps, 3}} {
		var numbers []int
		for n := -1; n <= frame[0]+1; n++ {
			numbers = append(numbers, n)
		}
		made := map[string]bool{}
		for _, heights := range listsOf(numbers, frame[1]) {
			if s := impl.FromHeights(frame[0], heights); len(heights) == frame[1] && s != "" {
				made[s] = true
			}
		}
		strips := stripsOf(frame[0], frame[1])
		for _, s := range strips {
			if !made[s] {
				t.Errorf("no heights lead to %q", s)
			}
		}
		if len(made) != len(strips) {
			t.Errorf("heights lead to %d strips of %d steps down and %d forward, want %d", len(made), frame[0], frame[1], len(strips))
		}
	}
}

func TestHeightsThatAreAllEqual(t *testing.T) {
	for down := -1; down <= maxSteps+2; down++ {
		for n := range maxSteps + 4 {
			for height := -2; height <= maxSteps+3; height++ {
				want := ""
				if down >= 1 && down <= maxSteps && n >= 1 && n <= maxSteps && height >= 0 && height <= down {
					want = strings.Repeat("d", down-height) + strings.Repeat("f", n) + strings.Repeat("d", height)
				}
				checkHeights(t, down, slices.Repeat([]int{height}, n), want)
			}
		}
	}
}

func TestSomeStripsOfHeights(t *testing.T) {
	// They fall by 1, by more, or not at all.
	checkHeights(t, 2, []int{2, 0}, "fddf")
	checkHeights(t, 3, []int{3, 2, 1, 0}, "fdfdfdf")
	checkHeights(t, 3, []int{2, 1, 0}, "dfdfdf")
	checkHeights(t, 4, []int{3, 2, 1}, "dfdfdfd")
	checkHeights(t, 5, []int{4, 1}, "dfdddfd")
	checkHeights(t, 5, []int{5, 5, 2, 2, 0}, "ffdddffddf")
	checkHeights(t, 6, []int{6, 3, 0}, "fdddfdddf")
	checkHeights(t, maxSteps, []int{maxSteps, 0}, "fddddddddf")
	checkHeights(t, maxSteps, []int{7, 6, 5, 4, 3, 2, 1, 0}, strings.Repeat("df", maxSteps))
	checkHeights(t, maxSteps, []int{8, 7, 6, 5, 4, 3, 2, 1}, strings.Repeat("fd", maxSteps))
	checkHeights(t, maxSteps, []int{6, 6, 6, 6, 1, 1, 1, 1}, "ddffffdddddffffd")
	// The same heights on pages of other sizes.
	checkHeights(t, 1, []int{1, 0}, "fdf")
	checkHeights(t, 2, []int{1, 0}, "dfdf")
	checkHeights(t, maxSteps, []int{1, 0}, "dddddddfdf")
	checkNoHeights(t, 0, 1, 0)
	checkNoHeights(t, maxSteps+1, 1, 0)
}

func TestHeightsThatRise(t *testing.T) {
	checkNoHeights(t, 2, 0, 1)
	checkNoHeights(t, 2, 1, 2)
	checkNoHeights(t, 2, 0, 2)
	checkNoHeights(t, 3, 2, 3, 0)
	checkNoHeights(t, 3, 3, 0, 1)
	checkNoHeights(t, 3, 2, 1, 2)
	checkNoHeights(t, 3, 3, 0, 3)
	for n := 2; n <= maxSteps; n++ {
		for at := 1; at < n; at++ {
			// Each number is as great as the one before it, but for one that is greater by 1.
			heights := slices.Repeat([]int{2}, n)
			for x := at; x < n; x++ {
				heights[x] = 3
			}
			for down := range maxSteps + 2 {
				checkNoHeights(t, down, heights...)
			}
			// They fall again behind it.
			heights = slices.Repeat([]int{2}, n)
			heights[at] = 3
			checkNoHeights(t, 3, heights...)
			// They fall to the number behind which they rise.
			heights = slices.Repeat([]int{2}, n)
			heights[at-1] = 1
			checkNoHeights(t, 3, heights...)
			// Without the rise there is such a strip.
			heights[at-1] = 2
			checkHeights(t, 3, heights, "d"+strings.Repeat("f", n)+"dd")
		}
	}
}

func TestHeightsOutsideOfTheRange(t *testing.T) {
	for down := 1; down <= maxSteps; down++ {
		for n := 1; n <= maxSteps; n++ {
			for _, height := range slices.Concat(greatNumbers, []int{math.MinInt + 2, math.MinInt + down, -1<<32 + down, -down, -2, -1, down + 1, down + 2, 1<<8 + down, 1<<16 + 1, 1<<32 + down}) {
				for x := range n {
					for _, other := range []int{0, down} {
						heights := slices.Repeat([]int{other}, n)
						heights[x] = height
						checkNoHeights(t, down, heights...)
					}
					// All others would be in the right order on both sides.
					heights := make([]int, n)
					for i := range x {
						heights[i] = down
					}
					heights[x] = height
					checkNoHeights(t, down, heights...)
				}
				checkNoHeights(t, down, slices.Repeat([]int{height}, n)...)
			}
		}
	}
	checkNoHeights(t, 1, math.MaxInt, math.MinInt)
	checkNoHeights(t, 1, 1, math.MinInt, 0)
	checkNoHeights(t, maxSteps, math.MaxInt, maxSteps, 0, math.MinInt)
}

func TestHeightsOnPagesOfOtherSizes(t *testing.T) {
	lists := [][]int{nil, {}, {0}, {1}, {-1}, {1, 0}, {0, 0, 0}, {2, 1}, make([]int, maxSteps), make([]int, maxSteps+1)}
	for _, heights := range lists {
		for down := -300; down <= 300; down++ {
			checkStripOf(t, down, heights)
		}
		for _, down := range slices.Concat(greatNumbers, []int{math.MinInt + 2, math.MinInt + maxSteps, 1<<16 + 1, 1<<32 + maxSteps, -1<<32 + maxSteps}) {
			checkNoHeights(t, down, heights...)
			checkNoHeights(t, down, append(slices.Clone(heights), down)...)
			checkNoHeights(t, down, down, 0)
			checkNoHeights(t, down, down-1)
		}
	}
}

func TestNumbersOfHeights(t *testing.T) {
	for down := 1; down <= maxSteps; down++ {
		checkNoHeights(t, down)
		if impl.FromHeights(down, nil) != "" || impl.FromHeights(down, []int{}) != "" {
			t.Errorf("there is a strip of %d steps down without heights", down)
		}
		for _, height := range []int{0, 1, down} {
			heights := slices.Repeat([]int{height}, maxSteps)
			checkStrip(t, impl.FromHeights(down, heights), down, maxSteps)
			for _, more := range []int{1, 2, 256 - maxSteps + 1, 1<<16 - maxSteps + 1} {
				checkNoHeights(t, down, append(heights, slices.Repeat([]int{height}, more)...)...)
				checkNoHeights(t, down, append(slices.Clone(heights), make([]int, more)...)...)
			}
		}
	}
}

func TestViewsOfAllSmallCards(t *testing.T) {
	for _, c := range smallCards() {
		checkViews(t, c)
	}
}

func TestViewsOfEveryFrameAndNumberOfStrips(t *testing.T) {
	for _, frame := range allFrames() {
		down, forward := frame[0], frame[1]
		for n := 1; n <= maxStrips; n++ {
			checkViews(t, mixedCard(down, forward, n))
			checkViews(t, cardOf(down, forward, symmetricStrips(down, forward, n)...))
		}
	}
}

func TestViewsOfPlainAndHighCards(t *testing.T) {
	for _, frame := range allFrames() {
		down, forward := frame[0], frame[1]
		flat, high := impl.FlatStrip(down, forward), impl.HighStrip(down, forward)
		flatTop, flatFront := make([]int, forward), make([]int, down)
		highTop, highFront := slices.Repeat([]int{down}, forward), slices.Repeat([]int{forward}, down)
		for n := 1; n <= maxStrips; n++ {
			checkViewsAre(t, cardOf(down, forward, slices.Repeat([]string{flat}, n)...), slices.Repeat([][]int{flatTop}, n), slices.Repeat([][]int{flatFront}, n), 0)
			checkViewsAre(t, cardOf(down, forward, slices.Repeat([]string{high}, n)...), slices.Repeat([][]int{highTop}, n), slices.Repeat([][]int{highFront}, n), 0)
			// Neighbors differ at all squares.
			strips := slices.Repeat([]string{flat, high}, maxStrips)
			top, front := slices.Repeat([][]int{flatTop, highTop}, maxStrips), slices.Repeat([][]int{flatFront, highFront}, maxStrips)
			checkViewsAre(t, cardOf(down, forward, strips[:n]...), top[:n], front[:n], (n-1)*forward)
			checkViewsAre(t, cardOf(down, forward, strips[1:n+1]...), top[1:n+1], front[1:n+1], (n-1)*forward)
		}
	}
}

func TestViewsOfSomeCards(t *testing.T) {
	checkViewsAre(t, cardOf(1, 1, "fd"), [][]int{{1}}, [][]int{{1}}, 0)
	checkViewsAre(t, cardOf(2, 2, "ddff", "dfdf", "dfdf"), [][]int{{0, 0}, {1, 0}, {1, 0}}, [][]int{{0, 0}, {0, 1}, {0, 1}}, 1)
	checkViewsAre(t, cardOf(3, 1, "dfdd", "fddd"), [][]int{{2}, {3}}, [][]int{{0, 1, 1}, {1, 1, 1}}, 1)
	checkViewsAre(t, cardOf(1, 3, "fdff", "ffdf", "dfff"), [][]int{{1, 0, 0}, {1, 1, 0}, {0, 0, 0}}, [][]int{{1}, {2}, {0}}, 3)
	checkViewsAre(t, cardOf(2, 3, "dfdff", "ffdfd"), [][]int{{1, 0, 0}, {2, 2, 1}}, [][]int{{0, 1}, {2, 3}}, 3)
	checkViewsAre(t, impl.SampleCard(), [][]int{{0, 0, 0, 0}, {2, 1, 1, 0}, {2, 1, 1, 0}, {3, 3, 1, 1}, {0, 0, 0, 0}}, [][]int{{0, 0, 0}, {0, 1, 3}, {0, 1, 3}, {2, 2, 4}, {0, 0, 0}}, 10)
	for _, c := range []impl.Card{cardOf(1, 1, "df"), cardOf(2, 3, "dfdff", "ffdfd", "dffdf"), impl.SampleCard()} {
		checkViews(t, c)
	}
}

func TestStepsBetweenStrips(t *testing.T) {
	// Neighbors that differ at one square, at some and at all of them.
	checkSteps(t, cardOf(3, 3, "dfdfdf", "fddfdf"), 1)
	checkSteps(t, cardOf(3, 3, "dfdfdf", "dffddf"), 1)
	checkSteps(t, cardOf(3, 3, "dfdfdf", "dfdffd"), 1)
	checkSteps(t, cardOf(3, 3, "dfdfdf", "fdfddf"), 2)
	checkSteps(t, cardOf(3, 3, "dfdfdf", "fddffd"), 2)
	checkSteps(t, cardOf(3, 3, "dfdfdf", "fdfdfd"), 3)
	// At one square they differ by more than 1, which is one step only.
	checkSteps(t, cardOf(3, 3, "dddfff", "fdddff"), 1)
	checkSteps(t, cardOf(3, 3, "dddfff", "ffdddf"), 2)
	checkSteps(t, cardOf(3, 3, "dddfff", "fffddd"), 3)
	// At one square the first one is higher, and at another one the second one.
	checkSteps(t, cardOf(2, 2, "dffd", "fddf"), 2)
	checkSteps(t, cardOf(3, 3, "dfffdd", "fdfddf"), 2)
	checkSteps(t, cardOf(3, 3, "dfffdd", "fdfdfd"), 2)
	// Strips that are equal, but not side by side.
	checkSteps(t, cardOf(2, 2, "dfdf", "ddff", "dfdf"), 2)
	checkSteps(t, cardOf(2, 2, "dfdf", "ddff", "ddff", "dfdf"), 2)
	checkSteps(t, cardOf(2, 2, "ddff", "ffdd", "ddff", "ffdd"), 6)
	checkSteps(t, cardOf(2, 2, "ddff", "ddff", "dfdf", "dfdf", "ddff", "ddff"), 2)
	// Several pairs differ at the same square, and at different ones.
	checkSteps(t, cardOf(2, 2, "ddff", "dfdf", "fddf"), 2)
	checkSteps(t, cardOf(2, 2, "ddff", "dfdf", "dffd"), 2)
	checkSteps(t, cardOf(2, 2, "ddff", "dfdf", "ddff", "dfdf", "fdfd"), 5)
	// The first and the last strip are no neighbors.
	checkSteps(t, cardOf(2, 2, "ddff", "ddff", "ffdd"), 2)
	checkSteps(t, cardOf(2, 2, "ddff", "ffdd"), 2)
	checkSteps(t, cardOf(2, 2, "ffdd", "ddff", "ddff", "ddff"), 2)
}

func TestStepsAroundOneStrip(t *testing.T) {
	for n := 1; n <= maxStrips; n++ {
		for k := range n {
			for _, other := range []string{"dfdfdfdf", "fddfdfdf", "dfdfdffd", "fddfdffd", "fdfdfdfd", "ddddffff", "ffffdddd"} {
				strips := slices.Repeat([]string{"dfdfdfdf"}, n)
				strips[k] = other
				differ := wantSteps([]string{"dfdfdfdf", other})
				neighbors := 0
				if k > 0 {
					neighbors++
				}
				if k < n-1 {
					neighbors++
				}
				checkSteps(t, cardOf(4, 4, strips...), neighbors*differ)
				checkViews(t, cardOf(4, 4, strips...))
			}
		}
	}
}

func TestStepsAreWhereTheAreasBetweenStripsAre(t *testing.T) {
	for _, strips := range [][]string{stripsOf(2, 2), stripsOf(3, 3), stripsOf(2, 5), stripsOf(5, 2), stripsOf(1, maxSteps), stripsOf(maxSteps, 1), someStrips(maxSteps, maxSteps, 337)} {
		for _, s := range strips {
			for _, u := range strips {
				c := cardOf(strings.Count(s, "d"), strings.Count(s, "f"), s, u)
				steps, area := impl.CountSteps(c), impl.AreaBetween(s, u)
				if steps > area || steps*c.Down < area || (steps == 0) != (s == u) {
					t.Errorf("CountSteps(%v) = %d, and the area between its strips is %d", c, steps, area)
				}
				checkSteps(t, c, wantSteps(c.Strips))
			}
		}
	}
}

func TestViewsOfInvalidCards(t *testing.T) {
	for _, c := range allInvalidCards() {
		checkNoViews(t, c)
	}
}
