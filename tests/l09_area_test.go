package tests

import (
	"math"
	"math/bits"
	"slices"
	"strings"
	"testing"

	"loop.example/g03305/impl"
)

// wantRoom counts the squares under a strip.
func wantRoom(s string) int { return bits.OnesCount64(squaresUnder(s)) }

// wantAbove counts the strips above s letter by letter: how many beginnings as long as those of s have so many letters f.
func wantAbove(s string) int {
	ways, least := make([]int, len(s)+2), 0
	ways[0] = 1
	for _, letter := range s {
		if letter == 'f' {
			least++
		}
		next := make([]int, len(ways))
		// With at least as many letters f as s, a beginning has no more letters d than s, so these need no limit.
		for n := least; n <= strings.Count(s, "f"); n++ {
			next[n] = ways[n]
			if n > 0 {
				next[n] += ways[n-1]
			}
		}
		ways = next
	}
	return ways[strings.Count(s, "f")]
}

// wantTable counts all strips of a frame by the squares under them.
func wantTable(down int, forward int) []int {
	table := make([]int, down*forward+1)
	for _, s := range stripsOf(down, forward) {
		table[wantRoom(s)]++
	}
	return table
}

func checkRoomIs(t *testing.T, s string, want int) {
	t.Helper()
	if got := impl.RoomUnder(s); got != want {
		t.Errorf("RoomUnder(%.40q) = %d, want %d", s, got, want)
	}
}

func checkAboveIs(t *testing.T, s string, want int) {
	t.Helper()
	if got := impl.CountAbove(s); got != want {
		t.Errorf("CountAbove(%.40q) = %d, want %d", s, got, want)
	}
}

// checkRoom compares the room under a strip with its squares and with the area between it and the flat one.
func checkRoom(t *testing.T, s string) {
	t.Helper()
	checkRoomIs(t, s, wantRoom(s))
	flat := impl.FlatStrip(strings.Count(s, "d"), strings.Count(s, "f"))
	checkRoomIs(t, s, impl.AreaBetween(s, flat))
	checkRoomIs(t, s, impl.AreaBetween(flat, s))
}

// checkVolume expects this volume of a card, and that the card is left alone.
func checkVolume(t *testing.T, c impl.Card, want int) {
	t.Helper()
	given, all := withSpare(c)
	before := slices.Clone(all)
	for range 2 {
		if got := impl.VolumeOf(given); got != want {
			t.Errorf("VolumeOf(%s) = %d, want %d", shortText(c), got, want)
		}
	}
	if !slices.Equal(all, before) {
		t.Errorf("VolumeOf(%s) changed its card or the memory behind it to %.80q", shortText(c), all)
	}
}

// checkSquares compares the volume of a valid card with the squares under all its strips.
func checkSquares(t *testing.T, c impl.Card) {
	t.Helper()
	squares := 0
	for _, s := range c.Strips {
		squares += wantRoom(s)
	}
	checkVolume(t, c, squares)
}

func checkStripCount(t *testing.T, down int, forward int, want int) {
	t.Helper()
	if got := impl.CountStrips(down, forward); got != want {
		t.Errorf("CountStrips(%d, %d) = %d, want %d", down, forward, got, want)
	}
}

func checkWithRoom(t *testing.T, down int, forward int, room int, want int) {
	t.Helper()
	if got := impl.CountWithRoom(down, forward, room); got != want {
		t.Errorf("CountWithRoom(%d, %d, %d) = %d, want %d", down, forward, room, got, want)
	}
}

// checkTable expects these counts for all rooms of a frame, and no strips with other rooms.
func checkTable(t *testing.T, down int, forward int, table []int) {
	t.Helper()
	// The table of the first round is overwritten, which the second one must not see.
	for range 2 {
		got := impl.RoomTable(down, forward)
		if !slices.Equal(got, table) {
			t.Errorf("RoomTable(%d, %d) = %d, want %d", down, forward, got, table)
		}
		overwriteApart(t, [][]int{got})
		for room, want := range table {
			checkWithRoom(t, down, forward, room, want)
		}
	}
	for i := range maxSteps*maxSteps + 10 {
		checkWithRoom(t, down, forward, -1-i, 0)
		checkWithRoom(t, down, forward, len(table)+i, 0)
	}
	for _, room := range append([]int{math.MinInt + maxSteps, 1<<32 + down*forward, 1<<63 - 1 - down*forward}, greatNumbers...) {
		checkWithRoom(t, down, forward, room, 0)
	}
}

// checkNoFrame expects that every function that takes a frame rejects it.
func checkNoFrame(t *testing.T, down int, forward int) {
	t.Helper()
	checkStripCount(t, down, forward, 0)
	checkTable(t, down, forward, nil)
}

// checkTwoFrames expects these counts of a frame and of the one with both numbers exchanged.
func checkTwoFrames(t *testing.T, down int, forward int, strips int, table ...int) {
	t.Helper()
	checkStripCount(t, down, forward, strips)
	checkStripCount(t, forward, down, strips)
	checkTable(t, down, forward, table)
	checkTable(t, forward, down, table)
}

// allFrames returns the numbers of steps of all frames.
func allFrames() [][2]int {
	var frames [][2]int
	for down := 1; down <= maxSteps; down++ {
		for forward := 1; forward <= maxSteps; forward++ {
			frames = append(frames, [2]int{down, forward})
		}
	}
	return frames
}

func TestRoomsOfAllSmallStrips(t *testing.T) {
	checkWords(t, 10, func(t *testing.T, s string) {
		checkRoom(t, s)
		checkAboveIs(t, s, wantAbove(s))
	}, func(t *testing.T, s string) {
		checkRoomIs(t, s, -1)
		checkAboveIs(t, s, 0)
	})
}

func TestRoomsOfStripsOfGreatFrames(t *testing.T) {
	for _, frame := range [][2]int{{maxSteps, maxSteps}, {maxSteps - 1, maxSteps}, {maxSteps, maxSteps - 1}, {maxSteps, 1}, {1, maxSteps}, {maxSteps, 3}, {3, maxSteps}} {
		for _, s := range stripsOf(frame[0], frame[1]) {
			checkRoom(t, s)
			checkAboveIs(t, s, wantAbove(s))
		}
	}
}

func TestFlatStripsHaveNoRoomAndHighStripsTheGreatestOne(t *testing.T) {
	for _, frame := range allFrames() {
		down, forward := frame[0], frame[1]
		flat, high, nearly := impl.FlatStrip(down, forward), impl.HighStrip(down, forward), nearlyHighStrips(down, forward)
		checkRoomIs(t, flat, 0)
		checkRoomIs(t, high, down*forward)
		checkRoomIs(t, nearly[0], (down-1)*forward)
		checkRoomIs(t, nearly[1], down*(forward-1))
		checkRoomIs(t, nearly[2], down*forward-1)
		checkAboveIs(t, flat, chooseOf(down+forward, down))
		checkAboveIs(t, high, 1)
		// The letter that is taken later can be at any place before.
		checkAboveIs(t, nearly[0], forward+1)
		checkAboveIs(t, nearly[1], down+1)
		checkAboveIs(t, nearly[2], 2)
		for i, s := range stripsOf(down, forward) {
			if i%17 == 0 && s != flat && s != high && (impl.RoomUnder(s) <= 0 || impl.RoomUnder(s) >= down*forward) {
				t.Errorf("RoomUnder(%q) = %d", s, impl.RoomUnder(s))
			}
		}
	}
	checkRoomIs(t, impl.HighStrip(maxSteps, maxSteps), 64)
	checkRoomIs(t, "fffffffdfddddddd", 63)
	checkAboveIs(t, impl.FlatStrip(maxSteps, maxSteps), 12870)
	checkAboveIs(t, "dddddddfdfffffff", 12869)
}

func TestRoomsOfSomeStrips(t *testing.T) {
	for s, want := range map[string]int{
		"df": 0, "fd": 1, "fdf": 1, "dff": 0, "ffd": 2, "fdd": 2, "dfd": 1, "ddf": 0,
		"ddff": 0, "dfdf": 1, "dffd": 2, "fddf": 2, "fdfd": 3, "ffdd": 4,
		"dfdffdf": 4, "ffddffd": 8, "fddddf": 4, "dfffff": 0, "fffffd": 5, "dfdfdf": 3, "fdfdfd": 6,
		"ddffddff": 4, "ffddffdd": 12, "dffdddffdf": 10, strings.Repeat("df", maxSteps): 28, strings.Repeat("fd", maxSteps): 36,
		"ddddddddffffffff": 0, "dddddddfdfffffff": 1, "ddddddddfffffff": 0, "fffffffdddddddd": 56, "ffffffffddddddd": 56,
	} {
		checkRoomIs(t, s, want)
		checkRoom(t, s)
	}
}

func TestExchangedStepsAreOneSquareOfRoom(t *testing.T) {
	for _, s := range slices.Concat(stripsOf(4, 3), stripsOf(3, 4), stripsOf(1, maxSteps), stripsOf(maxSteps, 1), nearlyHighStrips(maxSteps, maxSteps)) {
		for _, k := range impl.CornersOf(s) {
			gain := 1
			if s[k-1] == 'f' {
				gain = -1
			}
			checkRoomIs(t, s[:k-1]+s[k:k+1]+s[k-1:k]+s[k+1:], impl.RoomUnder(s)+gain)
		}
	}
}

func TestRoomsOfOtherTexts(t *testing.T) {
	for _, s := range otherTexts() {
		checkRoomIs(t, s, -1)
		checkAboveIs(t, s, 0)
	}
	for letter := range 256 {
		for _, s := range []string{"dfdf", "ffdd", strings.Repeat("df", maxSteps-1)} {
			for k := range len(s) {
				if letter != 'd' && letter != 'f' {
					text := s[:k] + string([]byte{byte(letter)}) + s[k:]
					checkRoomIs(t, text, -1)
					checkAboveIs(t, text, 0)
				}
			}
		}
	}
}

func TestVolumesOfAllSmallCards(t *testing.T) {
	for _, frame := range [][3]int{{1, 1, 6}, {1, 2, 5}, {2, 1, 5}, {2, 2, 4}, {3, 2, 3}, {2, 3, 3}, {3, 3, 2}, {1, 4, 3}, {4, 1, 3}, {maxSteps, 1, 2}, {1, maxSteps, 2}} {
		for _, c := range cardsOf(frame[0], frame[1], frame[2]) {
			checkSquares(t, c)
		}
	}
}

func TestVolumesOfEveryNumberOfStrips(t *testing.T) {
	for _, frame := range allFrames() {
		flat, high := impl.FlatStrip(frame[0], frame[1]), impl.HighStrip(frame[0], frame[1])
		for n := 1; n <= maxStrips; n++ {
			plain := cardOf(frame[0], frame[1], slices.Repeat([]string{flat}, n)...)
			checkVolume(t, plain, 0)
			checkVolume(t, cardOf(frame[0], frame[1], slices.Repeat([]string{high}, n)...), n*frame[0]*frame[1])
			checkSquares(t, mixedCard(frame[0], frame[1], n))
			for k := range n {
				// One strip alone has room.
				plain.Strips[k] = high
				checkVolume(t, plain, frame[0]*frame[1])
				plain.Strips[k] = flat
			}
		}
		for n := maxStrips + 1; n <= maxStrips+3; n++ {
			checkVolume(t, cardOf(frame[0], frame[1], slices.Repeat([]string{high}, n)...), -1)
		}
	}
}

func TestVolumesOfSomeCards(t *testing.T) {
	checkVolume(t, cardOf(1, 1, "df"), 0)
	checkVolume(t, cardOf(1, 1, "fd"), 1)
	checkVolume(t, cardOf(2, 3, "fdfdf"), 3)
	checkVolume(t, cardOf(2, 2, "ddff", "dfdf", "dfdf"), 2)
	checkVolume(t, cardOf(2, 2, "ffdd", "dfdf", "fdfd"), 8)
	checkVolume(t, impl.SampleCard(), 16)
	checkVolume(t, cardOf(maxSteps, maxSteps, slices.Repeat([]string{impl.HighStrip(maxSteps, maxSteps)}, maxStrips)...), 640)
	checkVolume(t, cardOf(maxSteps, maxSteps, append(slices.Repeat([]string{impl.HighStrip(maxSteps, maxSteps)}, maxStrips-1), "fffffffdfddddddd")...), 639)
}

func TestStripsThatArePutInAddTheirRoom(t *testing.T) {
	for _, c := range []impl.Card{cardOf(2, 3, "ddfff"), impl.SampleCard(), mixedCard(3, 3, maxStrips-1), mixedCard(maxSteps, maxSteps, 4)} {
		strips := stripsOf(c.Down, c.Forward)
		for i := 0; i < len(strips); i += 1 + len(strips)/20 {
			for k := range len(c.Strips) + 1 {
				more, ok := impl.PutStrip(c, k, strips[i])
				if !ok {
					t.Fatalf("%q cannot be put into %v at %d", strips[i], c, k)
				}
				checkVolume(t, more, impl.VolumeOf(c)+impl.RoomUnder(strips[i]))
			}
		}
	}
}

func TestVolumesOfInvalidCards(t *testing.T) {
	for _, c := range invalidCards() {
		checkVolume(t, c, -1)
	}
}

func TestCountsOfEveryFrame(t *testing.T) {
	for _, frame := range allFrames() {
		down, forward := frame[0], frame[1]
		checkStripCount(t, down, forward, chooseOf(down+forward, down))
		checkStripCount(t, down, forward, len(stripsOf(down, forward)))
		checkTable(t, down, forward, wantTable(down, forward))
	}
}

func TestCountsOfSomeFrames(t *testing.T) {
	checkTwoFrames(t, 1, 1, 2, 1, 1)
	checkTwoFrames(t, 1, 2, 3, 1, 1, 1)
	checkTwoFrames(t, 2, 2, 6, 1, 1, 2, 1, 1)
	checkTwoFrames(t, 2, 3, 10, 1, 1, 2, 2, 2, 1, 1)
	checkTwoFrames(t, 3, 3, 20, 1, 1, 2, 3, 3, 3, 3, 2, 1, 1)
	checkTwoFrames(t, 3, 4, 35, 1, 1, 2, 3, 4, 4, 5, 4, 4, 3, 2, 1, 1)
	checkTwoFrames(t, 4, 4, 70, 1, 1, 2, 3, 5, 5, 7, 7, 8, 7, 7, 5, 5, 3, 2, 1, 1)
	checkTwoFrames(t, 3, 5, 56, 1, 1, 2, 3, 4, 5, 6, 6, 6, 6, 5, 4, 3, 2, 1, 1)
	checkTwoFrames(t, 2, maxSteps, 45, 1, 1, 2, 2, 3, 3, 4, 4, 5, 4, 4, 3, 3, 2, 2, 1, 1)
	// With one step of a kind, there is one strip for every room.
	for n := 1; n <= maxSteps; n++ {
		checkTwoFrames(t, 1, n, n+1, slices.Repeat([]int{1}, n+1)...)
	}
}

func TestCountsOfTheGreatestFrames(t *testing.T) {
	// These are the coefficients of Gaussian binomials, calculated as quotients of polynomials.
	half := []int{1, 1, 2, 3, 5, 7, 11, 15, 22, 28, 38, 48, 63, 77, 97, 116, 141, 164, 194, 221, 255, 284, 319, 348, 383, 409, 440, 461, 486, 499, 515, 519}
	turned := slices.Clone(half)
	slices.Reverse(turned)
	checkTwoFrames(t, maxSteps, maxSteps, 12870, slices.Concat(half, []int{526}, turned)...)
	half = []int{1, 1, 2, 3, 5, 7, 11, 15, 21, 27, 36, 45, 58, 70, 86, 101, 120, 137, 158, 176, 197, 214, 233, 247, 263, 272, 282, 285}
	turned = slices.Clone(half)
	slices.Reverse(turned)
	checkTwoFrames(t, maxSteps, maxSteps-1, 6435, slices.Concat(half, []int{289}, turned)...)
}

func TestGreatestRoomOfEveryFrame(t *testing.T) {
	for _, frame := range allFrames() {
		down, forward := frame[0], frame[1]
		greatest := down * forward
		if n := len(impl.RoomTable(down, forward)); n != greatest+1 {
			t.Errorf("RoomTable(%d, %d) has %d counts", down, forward, n)
		}
		checkWithRoom(t, down, forward, greatest, 1)
		checkWithRoom(t, down, forward, greatest-1, 1)
		checkWithRoom(t, down, forward, greatest+1, 0)
		checkWithRoom(t, down, forward, 0, 1)
		checkWithRoom(t, down, forward, 1, 1)
		checkWithRoom(t, down, forward, -1, 0)
	}
	checkWithRoom(t, maxSteps, maxSteps, 62, 2)
	checkWithRoom(t, maxSteps, maxSteps, 63, 1)
	checkWithRoom(t, maxSteps, maxSteps, 64, 1)
	checkWithRoom(t, maxSteps, maxSteps, 65, 0)
}

func TestTablesCountAllStripsAndReadTheSameFromBothEnds(t *testing.T) {
	for _, frame := range allFrames() {
		down, forward := frame[0], frame[1]
		table, exchanged := impl.RoomTable(down, forward), impl.RoomTable(forward, down)
		sum, turned := 0, slices.Clone(table)
		for _, n := range table {
			sum += n
		}
		slices.Reverse(turned)
		if sum != impl.CountStrips(down, forward) || !slices.Equal(turned, table) || !slices.Equal(exchanged, table) {
			t.Errorf("%d down, %d forward: %d strips, but the table %d counts %d; exchanged, it is %d", down, forward, impl.CountStrips(down, forward), table, sum, exchanged)
		}
	}
}

func TestCountsFollowFromSmallerFrames(t *testing.T) {
	for down := 2; down <= maxSteps; down++ {
		for forward := 2; forward <= maxSteps; forward++ {
			// A strip begins with a step down, or with one forward that has a whole column under it.
			checkStripCount(t, down, forward, impl.CountStrips(down-1, forward)+impl.CountStrips(down, forward-1))
			for room := range down*forward + 1 {
				checkWithRoom(t, down, forward, room, impl.CountWithRoom(down-1, forward, room)+impl.CountWithRoom(down, forward-1, room-down))
			}
		}
	}
}

func TestCountsOfOtherFramesAreRejected(t *testing.T) {
	outside := append([]int{0, -1, -2, -maxSteps, maxSteps + 1, maxSteps + 2, 2 * maxSteps, 100, math.MinInt + 2, math.MaxInt - maxSteps}, greatNumbers...)
	for _, n := range outside {
		for m := 1; m <= maxSteps; m++ {
			checkNoFrame(t, n, m)
			checkNoFrame(t, m, n)
		}
		for _, m := range outside {
			checkNoFrame(t, n, m)
		}
	}
}

func TestTablesShareNoMemory(t *testing.T) {
	var tables [][]int
	for _, frame := range allFrames() {
		for range 2 {
			tables = append(tables, impl.RoomTable(frame[0], frame[1]))
		}
	}
	overwriteApart(t, tables)
	checkTwoFrames(t, 2, 2, 6, 1, 1, 2, 1, 1)
}

func TestStripsAboveAreThoseOfTheOrder(t *testing.T) {
	for _, frame := range [][2]int{{1, 1}, {1, 2}, {2, 1}, {2, 2}, {2, 3}, {3, 2}, {3, 3}, {2, 5}, {5, 2}, {4, 3}, {4, 4}, {1, maxSteps}, {maxSteps, 1}} {
		strips := stripsOf(frame[0], frame[1])
		for _, s := range strips {
			above := 0
			for _, u := range strips {
				if impl.IsAbove(u, s) {
					above++
				}
			}
			checkAboveIs(t, s, above)
		}
	}
	strips := stripsOf(maxSteps, maxSteps)
	for i := 0; i < len(strips); i += 1201 {
		above := 0
		for _, u := range strips {
			if squaresUnder(strips[i])&^squaresUnder(u) == 0 {
				above++
			}
		}
		checkAboveIs(t, strips[i], above)
	}
}

func TestNumbersOfStripsAboveOthersAddUp(t *testing.T) {
	for _, frame := range allFrames() {
		down, forward := frame[0], frame[1]
		sum := 0
		for _, s := range stripsOf(down, forward) {
			sum += impl.CountAbove(s)
		}
		if want := pairsAbove(down, forward); sum != want {
			t.Errorf("%d down, %d forward: %d strips are above others, want %d", down, forward, sum, want)
		}
	}
}

func TestNumbersOfStripsAboveSomeStrips(t *testing.T) {
	for s, want := range map[string]int{
		"df": 2, "fd": 1, "ddf": 3, "dfd": 2, "fdd": 1, "dff": 3, "fdf": 2, "ffd": 1,
		"ddff": 6, "dfdf": 5, "dffd": 3, "fddf": 3, "fdfd": 2, "ffdd": 1,
		// Strips that never go below stairs are counted by Catalan numbers.
		"dfdfdf": 14, "fdfdfd": 5, strings.Repeat("df", maxSteps): 4862, strings.Repeat("fd", maxSteps): 1430,
		// Only what begins and ends as s can be above it.
		"fdddfffd": 20, "ffddddffdd": 15, "dfffddd": 4, "fffdddf": 4,
		strings.Repeat("f", maxSteps-1) + strings.Repeat("d", maxSteps) + "f": 9, "d" + strings.Repeat("f", maxSteps) + strings.Repeat("d", maxSteps-1): 9,
	} {
		checkAboveIs(t, s, want)
	}
	for n := 1; n <= maxSteps; n++ {
		for k := range n + 1 {
			checkAboveIs(t, strings.Repeat("d", k)+"f"+strings.Repeat("d", n-k), k+1)
			checkAboveIs(t, strings.Repeat("f", n-k)+"d"+strings.Repeat("f", k), k+1)
		}
	}
}
