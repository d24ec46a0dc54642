package tests

import (
	"math"
	"slices"
	"strings"
	"testing"

	"loop.example/g03305/impl"
)

// maxWaysArea is the greatest area for which the document has ways counted.
const maxWaysArea = 12

// squaresToAdd returns the squares of limit that can be added to those under a strip, so that all of them lie under a strip again. The key of each is the number of its valley: that of the steps before the step forward below it.
func squaresToAdd(down int, under uint64, limit uint64) map[int]uint64 {
	squares := map[int]uint64{}
	for x := range maxSteps {
		for y := range down {
			square := uint64(1) << (maxSteps*x + y)
			// Below it is another square or the flat page, and behind it another square or the upright page.
			fits := (y == 0 || under&(square>>1) != 0) && (x == 0 || under&(square>>maxSteps) != 0)
			if fits && under&square == 0 && limit&square != 0 {
				squares[x+down-y] = square
			}
		}
	}
	return squares
}

// wantWay adds squares to those under s one by one, each at the least number, until they are those under u.
func wantWay(s string, u string) []int {
	var way []int
	down, under, limit := strings.Count(s, "d"), squaresUnder(s), squaresUnder(u)
	for under != limit {
		squares := squaresToAdd(down, under, limit)
		least := len(s)
		for k := range squares {
			least = min(least, k)
		}
		under |= squares[least]
		way = append(way, least)
	}
	return way
}

// countOrders counts the orders in which squares can be added until all of limit are there. It keeps what it has counted for this limit.
func countOrders(down int, under uint64, limit uint64, known map[uint64]int) int {
	if under == limit {
		return 1
	}
	if orders, ok := known[under]; ok {
		return orders
	}
	orders := 0
	for _, square := range squaresToAdd(down, under, limit) {
		orders += countOrders(down, under|square, limit, known)
	}
	known[under] = orders
	return orders
}

// wantWays counts the orders in which the squares between two strips can be added; 0 if there are too many squares.
func wantWays(s string, u string) int {
	if wantArea(s, u) > maxWaysArea {
		return 0
	}
	return countOrders(strings.Count(s, "d"), squaresUnder(s), squaresUnder(u), map[uint64]int{})
}

// checkRaise expects that s can be raised at k to the strip raised, or not at all if this is "".
func checkRaise(t *testing.T, s string, k int, raised string) {
	t.Helper()
	want, ok := raised, raised != ""
	if !ok {
		want = s
	}
	if got := impl.CanRaise(s, k); got != ok {
		t.Errorf("CanRaise(%.40q, %d) = %v", s, k, got)
	}
	if got, gotOk := impl.RaiseAt(s, k); got != want || gotOk != ok {
		t.Errorf("RaiseAt(%.40q, %d) = %.40q, %v, want %.40q, %v", s, k, got, gotOk, want, ok)
	}
}

// checkLower expects that s can be lowered at k to the strip lowered, or not at all if this is "".
func checkLower(t *testing.T, s string, k int, lowered string) {
	t.Helper()
	want, ok := lowered, lowered != ""
	if !ok {
		want = s
	}
	if got, gotOk := impl.LowerAt(s, k); got != want || gotOk != ok {
		t.Errorf("LowerAt(%.40q, %d) = %.40q, %v, want %.40q, %v", s, k, got, gotOk, want, ok)
	}
}

// checkNoFlip expects that s can be neither raised nor lowered at k.
func checkNoFlip(t *testing.T, s string, k int) {
	t.Helper()
	checkRaise(t, s, k, "")
	checkLower(t, s, k, "")
}

// checkRaises expects these numbers from RaisesOf, in memory of their own.
func checkRaises(t *testing.T, s string, want []int) {
	t.Helper()
	// The lists of the first round are overwritten, which the second one must not see.
	for range 2 {
		got := impl.RaisesOf(s)
		if !slices.Equal(got, want) {
			t.Errorf("RaisesOf(%.40q) = %d, want %d", s, got, want)
		}
		overwriteApart(t, [][]int{got, impl.RaisesOf(s), impl.CornersOf(s)})
	}
}

// checkFlips raises and lowers a strip at every number, and at numbers where there is no step.
func checkFlips(t *testing.T, s string) {
	t.Helper()
	var raises []int
	for k := -len(s) - 2; k <= 2*len(s)+2; k++ {
		raised, lowered := "", ""
		if k >= 1 && k < len(s) {
			beginning, end := s[:k-1], s[k+1:]
			switch s[k-1 : k+1] {
			case "df":
				raises = append(raises, k)
				raised = beginning + "fd" + end
				checkLower(t, raised, k, s)
				checkRaise(t, raised, k, "")
			case "fd":
				lowered = beginning + "df" + end
				checkRaise(t, lowered, k, s)
				checkLower(t, lowered, k, "")
			}
		}
		checkRaise(t, s, k, raised)
		checkLower(t, s, k, lowered)
	}
	checkRaises(t, s, raises)
}

// checkNoFlips expects that a text that is no strip has no valleys and mountains.
func checkNoFlips(t *testing.T, s string) {
	t.Helper()
	checkRaises(t, s, nil)
	for k := -2; k <= min(len(s), 2*maxSteps+4)+2; k++ {
		checkNoFlip(t, s, k)
	}
	for _, k := range append([]int{len(s) - 1, len(s), len(s) + 1}, greatNumbers...) {
		checkNoFlip(t, s, k)
	}
}

// checkWayIs expects this way from s to u, in memory of its own, and this number of ways.
func checkWayIs(t *testing.T, s string, u string, way []int, ways int) {
	t.Helper()
	// The lists of the first round are overwritten, which the second one must not see.
	for range 2 {
		got := impl.WayUp(s, u)
		if !slices.Equal(got, way) {
			t.Errorf("WayUp(%.40q, %.40q) = %d, want %d", s, u, got, way)
		}
		overwriteApart(t, [][]int{got, impl.WayUp(s, u), impl.RaisesOf(s), impl.RaisesOf(u)})
		if got := impl.CountWays(s, u); got != ways {
			t.Errorf("CountWays(%.40q, %.40q) = %d, want %d", s, u, got, ways)
		}
	}
}

// checkNoWay expects that no way leads from s to u, and none from u to s.
func checkNoWay(t *testing.T, s string, u string) {
	t.Helper()
	checkWayIs(t, s, u, nil, 0)
	checkWayIs(t, u, s, nil, 0)
}

// checkPromisedWay goes the way from s up to another strip u and back again, and expects as many steps as there are squares between.
func checkPromisedWay(t *testing.T, s string, u string) {
	t.Helper()
	way := impl.WayUp(s, u)
	if len(way) == 0 || len(way) != impl.AreaBetween(s, u) || len(way) != impl.RoomUnder(u)-impl.RoomUnder(s) {
		t.Errorf("WayUp(%q, %q) = %d, but there are %d squares between", s, u, way, impl.AreaBetween(s, u))
	}
	at := s
	for i, k := range way {
		next, ok := impl.RaiseAt(at, k)
		if !ok || !impl.IsAbove(u, next) || impl.AreaBetween(next, u) != len(way)-i-1 {
			t.Errorf("WayUp(%q, %q) = %d leads from %q to %q, %v", s, u, way, at, next, ok)
		}
		at = next
	}
	if at != u {
		t.Errorf("WayUp(%q, %q) = %d leads to %q", s, u, way, at)
	}
	for _, k := range slices.Backward(way) {
		at, _ = impl.LowerAt(at, k)
	}
	if at != s {
		t.Errorf("WayUp(%q, %q) = %d leads back to %q", s, u, way, at)
	}
}

// checkUp expects this way from s up to another strip u and this number of ways, and none from u to s.
func checkUp(t *testing.T, s string, u string, way []int, ways int) {
	t.Helper()
	checkWayIs(t, s, u, way, ways)
	checkWayIs(t, u, s, nil, 0)
	checkPromisedWay(t, s, u)
}

// checkWays compares the ways between two strips of one frame, in both orders, with the squares under them.
func checkWays(t *testing.T, s string, u string) {
	t.Helper()
	under, other := squaresUnder(s), squaresUnder(u)
	switch {
	case s == u:
		checkWayIs(t, s, strings.Clone(u), nil, 1)
	case under&^other == 0:
		checkUp(t, s, u, wantWay(s, u), wantWays(s, u))
	case other&^under == 0:
		checkUp(t, u, s, wantWay(u, s), wantWays(u, s))
	default:
		checkNoWay(t, s, u)
	}
}

func TestFlipsOfAllWords(t *testing.T) {
	checkWords(t, 10, checkFlips, checkNoFlips)
}

func TestFlipsOfStripsOfTheGreatestFrame(t *testing.T) {
	for _, s := range someStrips(maxSteps, maxSteps, 23) {
		checkFlips(t, s)
	}
	for _, frame := range [][2]int{{maxSteps, 1}, {1, maxSteps}, {maxSteps, 2}, {2, maxSteps}, {maxSteps, maxSteps}} {
		for _, s := range append(nearlyHighStrips(frame[0], frame[1]), impl.FlatStrip(frame[0], frame[1]), impl.HighStrip(frame[0], frame[1])) {
			checkFlips(t, s)
		}
	}
	checkFlips(t, strings.Repeat("df", maxSteps))
	checkFlips(t, strings.Repeat("fd", maxSteps))
}

func TestFlipsOfSomeStrips(t *testing.T) {
	checkRaise(t, "df", 1, "fd")
	checkLower(t, "fd", 1, "df")
	checkRaise(t, "ddff", 2, "dfdf")
	checkLower(t, "dfdf", 2, "ddff")
	checkRaise(t, "dfdffdf", 1, "fddffdf")
	checkRaise(t, "dfdffdf", 3, "dffdfdf")
	checkRaise(t, "dfdffdf", 6, "dfdfffd")
	checkLower(t, "dfdffdf", 2, "ddfffdf")
	checkLower(t, "dfdffdf", 5, "dfdfdff")
	checkRaises(t, "df", []int{1})
	checkRaises(t, "fdf", []int{2})
	checkRaises(t, "ddff", []int{2})
	checkRaises(t, "dfdf", []int{1, 3})
	checkRaises(t, "ddffddf", []int{2, 6})
	checkRaises(t, "dfdffdf", []int{1, 3, 6})
	checkRaises(t, strings.Repeat("df", maxSteps), []int{1, 3, 5, 7, 9, 11, 13, 15})
	checkRaises(t, "f"+strings.Repeat("df", maxSteps-1)+"d", []int{2, 4, 6, 8, 10, 12, 14})
}

func TestFlipsAtTheEndsOfStrips(t *testing.T) {
	for _, s := range []string{"df", "dfdf", "dffddf", strings.Repeat("df", maxSteps)} {
		// There are valleys behind the first step and before the last one, and no step before or behind them.
		checkRaise(t, s, 1, "fd"+s[2:])
		checkRaise(t, s, len(s)-1, s[:len(s)-2]+"fd")
		checkNoFlip(t, s, 0)
		checkNoFlip(t, s, len(s))
	}
	for _, s := range []string{"fd", "fdfd", "fddffd", strings.Repeat("fd", maxSteps)} {
		checkLower(t, s, 1, "df"+s[2:])
		checkLower(t, s, len(s)-1, s[:len(s)-2]+"df")
		checkNoFlip(t, s, 0)
		checkNoFlip(t, s, len(s))
	}
	for _, s := range []string{"ddff", "ffdd", "ddfdd", "ffdff", "ddfffddfff", "ffdddffdd"} {
		for _, k := range []int{0, 1, len(s) - 1, len(s)} {
			checkNoFlip(t, s, k)
		}
	}
}

func TestFlipsAtGreatNumbers(t *testing.T) {
	for _, s := range []string{"df", "fd", "dfdf", "fdfd", "dfdffdf", strings.Repeat("df", maxSteps), strings.Repeat("fd", maxSteps)} {
		for _, n := range append([]int{math.MinInt + 3, -1<<32 + 3, 1<<8 + 3, 1<<16 + 1, 1<<16 + 3, 1<<32 + 3}, greatNumbers...) {
			checkNoFlip(t, s, n)
		}
	}
}

func TestStripsWithoutValleyOrMountain(t *testing.T) {
	for _, frame := range allFrames() {
		down, forward := frame[0], frame[1]
		flat, high := impl.FlatStrip(down, forward), impl.HighStrip(down, forward)
		checkFlips(t, flat)
		checkFlips(t, high)
		checkRaises(t, high, nil)
		checkRaises(t, flat, []int{down})
		for k := -1; k <= down+forward+1; k++ {
			checkRaise(t, high, k, "")
			checkLower(t, flat, k, "")
		}
	}
}

func TestFlipsOfOtherTexts(t *testing.T) {
	for _, s := range otherTexts() {
		checkNoFlips(t, s)
	}
	for letter := range 256 {
		for _, s := range []string{"dfdf", "ffdd", strings.Repeat("df", maxSteps-1)} {
			for k := range len(s) + 1 {
				if letter != 'd' && letter != 'f' {
					checkNoFlips(t, s[:k]+string([]byte{byte(letter)})+s[k:])
				}
			}
		}
	}
}

func TestWaysBetweenAllSmallStrips(t *testing.T) {
	for _, frame := range [][2]int{{1, 1}, {1, 2}, {2, 1}, {2, 2}, {1, 5}, {5, 1}, {2, 3}, {3, 2}, {3, 3}, {2, 5}, {4, 2}, {2, 6}, {4, 3}, {4, 4}, {1, maxSteps}, {maxSteps, 1}} {
		strips := stripsOf(frame[0], frame[1])
		for i, s := range strips {
			for _, u := range strips[i:] {
				checkWays(t, s, u)
			}
		}
	}
}

func TestWaysBetweenStripsOfTheGreatestFrame(t *testing.T) {
	some := someStrips(maxSteps, maxSteps, 331)
	for i, s := range some {
		for _, u := range some[i:] {
			checkWays(t, s, u)
			checkWays(t, s, wantUpper(s, u))
			checkWays(t, wantLower(s, u), s)
			checkWays(t, wantLower(s, u), wantUpper(s, u))
		}
	}
}

func TestWaysAroundTheGreatestAreaThatIsCounted(t *testing.T) {
	for _, frame := range [][2]int{{maxSteps, maxSteps}, {maxSteps, 5}, {6, maxSteps}} {
		for i, s := range someStrips(frame[0], frame[1], 97) {
			// The squares are added at changing places, so that they are of many shapes.
			u := s
			for n := range maxWaysArea + 3 {
				raises := impl.RaisesOf(u)
				if len(raises) == 0 {
					break
				}
				k := raises[(i+7*n)%len(raises)]
				u = u[:k-1] + "fd" + u[k+1:]
				if n >= 8 {
					checkWays(t, s, u)
				}
			}
		}
	}
}

func TestWaysBetweenEqualStrips(t *testing.T) {
	for _, frame := range [][2]int{{1, 1}, {1, maxSteps}, {maxSteps, 1}, {2, 3}, {4, 4}, {maxSteps, maxSteps}} {
		for i, s := range stripsOf(frame[0], frame[1]) {
			if i%29 == 0 || len(s) < maxSteps {
				// The copy is a string of its own.
				checkWayIs(t, s, strings.Clone(s), nil, 1)
			}
		}
	}
}

func TestWaysOfOneSquare(t *testing.T) {
	for _, s := range slices.Concat(stripsOf(4, 3), stripsOf(1, maxSteps), stripsOf(maxSteps, 1), nearlyHighStrips(maxSteps, maxSteps), []string{strings.Repeat("df", maxSteps)}) {
		for _, k := range impl.RaisesOf(s) {
			checkUp(t, s, s[:k-1]+"fd"+s[k+1:], []int{k}, 1)
		}
	}
}

func TestWaysFromFlatToHighStrips(t *testing.T) {
	// By the hook lengths; these are all frames with at most 12 squares and more than one step of each kind.
	counts := map[[2]int]int{{2, 2}: 2, {2, 3}: 5, {2, 4}: 14, {2, 5}: 42, {2, 6}: 132, {3, 3}: 42, {3, 4}: 462}
	for _, frame := range allFrames() {
		down, forward := frame[0], frame[1]
		ways := counts[[2]int{min(down, forward), max(down, forward)}]
		if down == 1 || forward == 1 {
			ways = 1
		}
		// The first step forward is raised to the top, then the next one.
		var way []int
		for x := range forward {
			for k := x + down; k > x; k-- {
				way = append(way, k)
			}
		}
		checkUp(t, impl.FlatStrip(down, forward), impl.HighStrip(down, forward), way, ways)
	}
	if way := impl.WayUp("ddddddddffffffff", "ffffffffdddddddd"); len(way) != 64 || way[0] != 8 || way[7] != 1 || way[63] != 8 {
		t.Errorf("the way from the flat to the high strip of the greatest frame is %d", way)
	}
}

func TestWaysTakeTheLeastNumber(t *testing.T) {
	// All valleys can be raised, in any order.
	checkUp(t, "dfdf", "fdfd", []int{1, 3}, 2)
	checkUp(t, "dfdfdf", "fdfdfd", []int{1, 3, 5}, 6)
	checkUp(t, strings.Repeat("df", maxSteps), strings.Repeat("fd", maxSteps), []int{1, 3, 5, 7, 9, 11, 13, 15}, 40320)
	// A lesser number follows a greater one.
	checkUp(t, "ddff", "fdfd", []int{2, 1, 3}, 2)
	checkUp(t, "ddff", "ffdd", []int{2, 1, 3, 2}, 2)
	checkUp(t, "dddfff", "fdfdfd", []int{3, 2, 1, 4, 3, 5}, 16)
	checkUp(t, "ddfddff", "fdfdfdd", []int{2, 1, 5, 4, 3, 6, 5}, 91)
	// The least valley must not be raised, or not again.
	checkUp(t, "dfdf", "dffd", []int{3}, 1)
	checkUp(t, "dfdfdf", "dffdfd", []int{3, 5}, 2)
	checkUp(t, "dfdfdf", "fddffd", []int{1, 5}, 2)
	checkUp(t, "dddffdf", "dfddffd", []int{3, 2, 6}, 3)
	checkUp(t, "ddffddff", "dfdfdfdf", []int{2, 6}, 2)
	// A raise makes a new valley with a lesser number than the next old one, or with a greater one.
	checkUp(t, "ddfdf", "fddfd", []int{2, 1, 4}, 3)
	checkUp(t, "dffdf", "ffdfd", []int{1, 2, 4}, 3)
	checkUp(t, "dffdff", "ffdffd", []int{1, 2, 4, 5}, 6)
}

func TestNumbersOfWays(t *testing.T) {
	// Parts that do not touch: 4, 4 and 4 squares with 2 ways each, and with one square more.
	checkUp(t, "ddffddffddff", "ffddffddffdd", wantWay("ddffddffddff", "ffddffddffdd"), 277200)
	checkUp(t, "ddffddffddffdf", "ffddffddffddfd", wantWay("ddffddffddffdf", "ffddffddffddfd"), 0)
	// Two parts in one row each.
	checkUp(t, "dffffffdddddddf", "ffffffdfddddddd", append(wantWay("dffffff", "ffffffd"), 14, 13, 12, 11, 10, 9, 8), 0)
	checkUp(t, "dffffffddddddf", "ffffffdfdddddd", []int{1, 2, 3, 4, 5, 6, 13, 12, 11, 10, 9, 8}, 924)
	// Up to 8 squares in one row, and in one row and one column.
	for n := 1; n <= maxSteps; n++ {
		d, f := strings.Repeat("d", n), strings.Repeat("f", n)
		checkUp(t, "d"+f, f+"d", wantWay("d"+f, f+"d"), 1)
		checkUp(t, d+"f", "f"+d, wantWay(d+"f", "f"+d), 1)
	}
}

func TestWaysBetweenZigzagStrips(t *testing.T) {
	// Squares that lie alternately above and beside each other: each second one must be there before its neighbors.
	counts := []int{1, 1, 2, 5, 16, 61, 272, 1385, 7936, 50521, 353792, 2702765, 0, 0, 0}
	for i, ways := range counts {
		for _, two := range []string{"df", "fd"} {
			part := strings.Repeat(two, maxSteps)[:i]
			s, u := "d"+part+"f", "f"+part+"d"
			checkUp(t, s, u, wantWay(s, u), ways)
		}
	}
}

func TestWaysByWayOfOneSquare(t *testing.T) {
	for _, frame := range [][2]int{{3, 3}, {3, 4}, {2, 6}} {
		strips := stripsOf(frame[0], frame[1])
		for _, s := range strips {
			for _, u := range strips {
				if s == u {
					continue
				}
				first, last := 0, 0
				for _, k := range impl.CornersOf(s) {
					if raised, ok := impl.RaiseAt(s, k); ok {
						first += impl.CountWays(raised, u)
					}
				}
				for _, k := range impl.CornersOf(u) {
					if lowered, ok := impl.LowerAt(u, k); ok {
						last += impl.CountWays(s, lowered)
					}
				}
				if ways := impl.CountWays(s, u); ways != first || ways != last {
					t.Errorf("CountWays(%q, %q) = %d, but %d by the first and %d by the last square", s, u, ways, first, last)
				}
			}
		}
	}
}

func TestWaysFromTheFlatStripByRoom(t *testing.T) {
	// The squares of the numbers of ways to all strips with n squares add up to the number of orders of n things.
	flat := impl.FlatStrip(maxSteps, maxSteps)
	sums, factorial := make([]int, maxSteps+1), 1
	for _, s := range stripsOf(maxSteps, maxSteps) {
		if room := wantRoom(s); room <= maxSteps {
			sums[room] += impl.CountWays(flat, s) * impl.CountWays(flat, s)
		}
	}
	for n, sum := range sums {
		factorial *= max(n, 1)
		if sum != factorial {
			t.Errorf("the squares of the ways from %q up by %d squares add up to %d, want %d", flat, n, sum, factorial)
		}
	}
}

func TestNoWaysBetweenStripsThatCross(t *testing.T) {
	for _, pair := range [][2]string{{"dffd", "fddf"}, {"dfdfd", "fdddf"}, {"dfffd", "fdfdf"}, {"fddffd", "dffddf"}, {"fdfddf", "dffdfd"}, {"ffddddff", "ddffffdd"}, {"dffffd", "fffddf"}, {"dfdffdd", "fddddff"}, {strings.Repeat("fddf", 4), strings.Repeat("dffd", 4)}} {
		s, u := pair[0], pair[1]
		checkNoWay(t, s, u)
		for _, v := range []string{s, u} {
			checkWays(t, v, impl.UpperOf(s, u))
			checkWays(t, impl.LowerOf(s, u), v)
		}
	}
}

func TestNoWaysDown(t *testing.T) {
	for _, pair := range [][2]string{{"fd", "df"}, {"ffdd", "ddff"}, {"fdfd", "dfdf"}, {"dfdf", "ddff"}, {"fddf", "dfdf"}, {"dffd", "dfdf"}, {strings.Repeat("fd", maxSteps), strings.Repeat("df", maxSteps)}} {
		checkWayIs(t, pair[0], pair[1], nil, 0)
	}
	for _, frame := range allFrames() {
		checkWayIs(t, impl.HighStrip(frame[0], frame[1]), impl.FlatStrip(frame[0], frame[1]), nil, 0)
	}
}

func TestNoWaysBetweenOtherTexts(t *testing.T) {
	for _, pair := range append(pairsOfOtherTexts(), pairsOfOtherFrames()...) {
		checkNoWay(t, pair[0], pair[1])
	}
	for _, s := range otherTexts() {
		checkNoWay(t, s, strings.Clone(s))
	}
}
