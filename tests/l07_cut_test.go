package tests

import (
	"slices"
	"strings"
	"testing"

	"loop.example/g03305/impl"
)

// wantCuts tells from both ends of every step of two strips of one frame which of them are cut.
func wantCuts(s string, u string) []int {
	here, beside := walkOf(s, 1), walkOf(u, 1)
	var cuts []int
	for k := range len(s) {
		if here[k] != beside[k] || here[k+1] != beside[k+1] {
			cuts = append(cuts, k)
		}
	}
	return cuts
}

// wantCutRuns pairs the cuts that follow no other cut with those that no other cut follows.
func wantCutRuns(cuts []int) [][]int {
	var runs [][]int
	for _, k := range cuts {
		if !slices.Contains(cuts, k-1) {
			runs = append(runs, []int{k})
		}
		if !slices.Contains(cuts, k+1) {
			last := len(runs) - 1
			runs[last] = append(runs[last], k)
		}
	}
	return runs
}

// isUnder tells whether a square, counted from the upright page and from the flat one, lies under a strip.
func isUnder(s string, x int, y int) bool {
	points := walkOf(s, 1)
	for i := range len(s) {
		if points[i][0] == x && points[i+1][0] == x+1 {
			return points[i][1] > y
		}
	}
	return false
}

// wantArea counts the squares that lie under just one of two strips of one frame.
func wantArea(s string, u string) int {
	area := 0
	for x := range strings.Count(s, "f") {
		for y := range strings.Count(s, "d") {
			if isUnder(s, x, y) != isUnder(u, x, y) {
				area++
			}
		}
	}
	return area
}

// overwriteApart writes to all memory of some lists, and expects that no two of them share any.
func overwriteApart(t *testing.T, lists [][]int) {
	t.Helper()
	for i, list := range lists {
		all := list[:cap(list)]
		for j := range all {
			all[j] = 1000 + i
		}
	}
	for i, list := range lists {
		for _, n := range list[:cap(list)] {
			if n != 1000+i {
				t.Fatalf("lists %d and %d of %d share memory", i, n-1000, len(lists))
			}
		}
	}
}

// checkCutLists expects these cuts and parts of two strips, and that their lists share no memory.
func checkCutLists(t *testing.T, s string, u string, cuts []int, runs [][]int) {
	t.Helper()
	gotCuts, gotRuns := impl.CutsBetween(s, u), impl.CutRuns(s, u)
	if !slices.Equal(gotCuts, cuts) {
		t.Errorf("CutsBetween(%.40q, %.40q) = %d, want %d", s, u, gotCuts, cuts)
	}
	if !slices.EqualFunc(gotRuns, runs, slices.Equal) {
		t.Errorf("CutRuns(%.40q, %.40q) = %d, want %d", s, u, gotRuns, runs)
	}
	lists := append(slices.Clone(gotRuns[:cap(gotRuns)]), gotCuts, impl.CutsBetween(s, u))
	overwriteApart(t, append(lists, impl.CutRuns(s, u)...))
}

func checkArea(t *testing.T, s string, u string, want int) {
	t.Helper()
	if got := impl.AreaBetween(s, u); got != want {
		t.Errorf("AreaBetween(%.40q, %.40q) = %d, want %d", s, u, got, want)
	}
}

// checkCutsAre expects these cuts and this area between two strips, in both orders.
func checkCutsAre(t *testing.T, s string, u string, cuts []int, area int) {
	t.Helper()
	runs := wantCutRuns(cuts)
	// The lists of the first round are overwritten, which the second one must not see.
	for range 2 {
		checkCutLists(t, s, u, cuts, runs)
		checkCutLists(t, u, s, cuts, runs)
		checkArea(t, s, u, area)
		checkArea(t, u, s, area)
	}
}

func checkCuts(t *testing.T, s string, u string) {
	t.Helper()
	checkCutsAre(t, s, u, wantCuts(s, u), wantArea(s, u))
}

// checkCutText expects the cuts that are written as marks, with an x for each step that is cut.
func checkCutText(t *testing.T, s string, u string, marks string, area int) {
	t.Helper()
	if len(marks) != len(s) || len(marks) != len(u) {
		t.Fatalf("%q, %q and %q have different lengths", s, u, marks)
	}
	var cuts []int
	for k := range len(marks) {
		if marks[k] == 'x' {
			cuts = append(cuts, k)
		}
	}
	checkCutsAre(t, s, u, cuts, area)
}

// checkNoCuts expects that two texts which are no strips of one frame are rejected, in both orders.
func checkNoCuts(t *testing.T, s string, u string) {
	t.Helper()
	checkCutLists(t, s, u, nil, nil)
	checkCutLists(t, u, s, nil, nil)
	checkArea(t, s, u, -1)
	checkArea(t, u, s, -1)
}

// checkLengths expects these lengths of the cuts and edges of a card, and that both functions leave it alone.
func checkLengths(t *testing.T, c impl.Card, cuts int, edges int) {
	t.Helper()
	given, all := withSpare(c)
	before := slices.Clone(all)
	if got := impl.CutLength(given); got != cuts {
		t.Errorf("CutLength(%.80v) = %d, want %d", c, got, cuts)
	}
	if got := impl.FreeEdges(given); got != edges {
		t.Errorf("FreeEdges(%.80v) = %d, want %d", c, got, edges)
	}
	if !slices.Equal(all, before) {
		t.Errorf("a function of cuts changed the card %.80v or the memory behind it to %.80q", c, all)
	}
}

// checkCardCuts counts the cuts of a valid card: a step is cut from the next strip if its tile is not joined there.
func checkCardCuts(t *testing.T, c impl.Card) {
	t.Helper()
	cuts, apart := 0, 0
	for k := 1; k < len(c.Strips); k++ {
		cuts += len(wantCuts(c.Strips[k-1], c.Strips[k]))
		for i := range len(c.Strips[k]) {
			if !impl.AreJoined(c, k-1, i, i) {
				apart++
			}
		}
	}
	checkLengths(t, c, cuts, 2*cuts+2*(c.Down+c.Forward))
	if apart != cuts {
		t.Errorf("%v: %d tiles are not joined, and %d steps are cut", c, apart, cuts)
	}
}

func TestCutsOfAllSmallStrips(t *testing.T) {
	for _, frame := range [][2]int{{1, 1}, {1, 2}, {2, 1}, {2, 2}, {1, 5}, {5, 1}, {2, 3}, {3, 2}, {3, 3}, {2, 5}, {4, 2}, {4, 3}, {1, maxSteps}, {maxSteps, 1}} {
		strips := stripsOf(frame[0], frame[1])
		for _, s := range strips {
			for _, u := range strips {
				checkCuts(t, s, u)
			}
		}
	}
}

func TestCutsOfEveryFrame(t *testing.T) {
	for down := 1; down <= maxSteps; down++ {
		for forward := 1; forward <= maxSteps; forward++ {
			flat, high := impl.FlatStrip(down, forward), impl.HighStrip(down, forward)
			checkCutText(t, flat, high, strings.Repeat("x", down+forward), down*forward)
			strips := append(nearlyHighStrips(down, forward), flat, high)
			for _, s := range strips {
				for _, u := range strips {
					checkCuts(t, s, u)
				}
			}
		}
	}
}

func TestCutsOfStripsOfTheGreatestFrame(t *testing.T) {
	some := someStrips(maxSteps, maxSteps, 211)
	for _, s := range some {
		for _, u := range some {
			checkCuts(t, s, u)
		}
	}
}

func TestBetweenEqualStripsIsNoCut(t *testing.T) {
	for _, frame := range [][2]int{{1, 1}, {1, maxSteps}, {maxSteps, 1}, {2, 3}, {4, 4}} {
		strips := stripsOf(frame[0], frame[1])
		for _, s := range strips {
			checkCutsAre(t, s, s, nil, 0)
			for _, u := range strips {
				if s != u && (len(impl.CutsBetween(s, u)) == 0 || len(impl.CutRuns(s, u)) == 0 || impl.AreaBetween(s, u) <= 0) {
					t.Errorf("there is no cut between %q and %q", s, u)
				}
			}
		}
	}
	for _, s := range someStrips(maxSteps, maxSteps, 7) {
		// The copy is a string of its own.
		checkCutsAre(t, s, strings.Clone(s), nil, 0)
	}
}

func TestAreasBetweenStripsAreDistances(t *testing.T) {
	for _, strips := range [][]string{stripsOf(1, 1), stripsOf(2, 2), stripsOf(2, 4), stripsOf(4, 3), nearlyHighStrips(maxSteps, maxSteps), mixedCard(maxSteps, 5, maxStrips).Strips, mixedCard(maxSteps, maxSteps, 40).Strips} {
		for _, s := range strips {
			for _, u := range strips {
				between := impl.AreaBetween(s, u)
				if between != impl.AreaBetween(u, s) || between < 0 || (between == 0) != (s == u) {
					t.Errorf("AreaBetween(%q, %q) = %d, and in the other order %d", s, u, between, impl.AreaBetween(u, s))
				}
				for _, v := range strips {
					if way := impl.AreaBetween(s, v) + impl.AreaBetween(v, u); between > way {
						t.Errorf("from %q to %q are %d squares, but %d by way of %q", s, u, between, way, v)
					}
				}
			}
		}
	}
}

func TestExchangedStepsAreOneSquare(t *testing.T) {
	for _, s := range slices.Concat(stripsOf(4, 3), stripsOf(1, maxSteps), nearlyHighStrips(maxSteps, maxSteps)) {
		for _, k := range impl.CornersOf(s) {
			u := s[:k-1] + s[k:k+1] + s[k-1:k] + s[k+1:]
			marks := strings.Repeat("-", k-1) + "xx" + strings.Repeat("-", len(s)-k-1)
			checkCutText(t, s, u, marks, 1)
		}
	}
}

func TestCutsAtTheEndsOfStrips(t *testing.T) {
	// Strips of one frame cannot differ in a single step: only in the first two or the last two.
	checkCutText(t, "df", "fd", "xx", 1)
	checkCutText(t, "dfddf", "fdddf", "xx---", 1)
	checkCutText(t, "ffddf", "ffdfd", "---xx", 1)
	checkCutText(t, "dffffdd", "dddffff", "-xxxxxx", 8)
	checkCutText(t, "fffdddd", "dddfffd", "xxxxxx-", 9)
	checkCutText(t, "dfffdf", "fdfffd", "xx--xx", 2)
	checkCutText(t, "dffdfddf", "fdddffdf", "xxxxxx--", 4)
	d, f := strings.Repeat("d", maxSteps-1), strings.Repeat("f", maxSteps-1)
	none := strings.Repeat("-", 2*maxSteps-2)
	checkCutText(t, "df"+d+f, "fd"+d+f, "xx"+none, 1)
	checkCutText(t, f+d+"df", f+d+"fd", none+"xx", 1)
}

func TestStripsThatTouchInTheMiddle(t *testing.T) {
	// They meet in a point, where one cut ends and the next one begins: there is no gap.
	checkCutText(t, "dfdf", "fdfd", "xxxx", 2)
	checkCutText(t, "ddffdf", "ffddfd", "xxxxxx", 5)
	checkCutText(t, "fddfddf", "fdfdfdd", "--xxxxx", 3)
	// They meet in one step.
	checkCutText(t, "dffdf", "fdffd", "xx-xx", 2)
	checkCutText(t, "dfddf", "fddfd", "xx-xx", 2)
	checkCutText(t, "ddffdddf", "ffdddfdd", "xxxx-xxx", 6)
	// They meet in several steps.
	checkCutText(t, "dffddfdf", "fdfddffd", "xx----xx", 2)
	checkCutText(t, "ddfdffddf", "fdddffdfd", "xxx----xx", 3)
}

func TestStripsThatCrossInTheMiddle(t *testing.T) {
	checkCutText(t, "dffd", "fddf", "xxxx", 2)
	checkCutText(t, "ddffffdd", "ffddddff", "xxxxxxxx", 8)
	checkCutText(t, "dfffd", "fdfdf", "xx-xx", 2)
	checkCutText(t, "dfdfd", "fdddf", "xx-xx", 2)
	checkCutText(t, "dffdfd", "fdfddf", "xx--xx", 2)
	checkCutText(t, "dfdfdffd", "fdddffdf", "xx-xx-xx", 3)
	// What one strip has more at one side and less at the other one is not subtracted.
	checkCutText(t, "dddffffffddd", "fffddddddfff", "xxxxxxxxxxxx", 18)
}

func TestStepsOfOneLetterAtDifferentPlacesAreCut(t *testing.T) {
	checkCutText(t, "ddf", "fdd", "xxx", 2)
	checkCutText(t, "dff", "ffd", "xxx", 2)
	checkCutText(t, "ddfffd", "fffddd", "xxxxx-", 6)
	checkCutText(t, "fddddf", "ddddff", "xxxxx-", 4)
	checkCutText(t, "ffddddf", "fddddff", "-xxxxx-", 4)
	// No step but the first and the last one has different letters.
	checkCutText(t, "dfdfdfdf", "ffdfdfdd", "xxxxxxxx", 7)
	checkCutText(t, "ddddddddf", "fdddddddd", "xxxxxxxxx", 8)
	checkCutText(t, "dffffffff", "ffffffffd", "xxxxxxxxx", 8)
}

func TestStepsOfDifferentLettersAtOnePlaceAreCut(t *testing.T) {
	checkCutText(t, "ddff", "dfdf", "-xx-", 1)
	checkCutText(t, "dfdfdf", "dffddf", "--xx--", 1)
	checkCutText(t, "fdfdfd", "fddffd", "--xx--", 1)
	checkCutText(t, "fdfdfd", "fddfdf", "--xxxx", 2)
}

func TestPartsOfCuts(t *testing.T) {
	checkCutText(t, "ddffdf", "dfdffd", "-xx-xx", 2)
	checkCutText(t, "dfddfddf", "fddfddfd", "xx-xx-xx", 3)
	checkCutText(t, "dfffddddff", "fdffdddffd", "xx-----xxx", 3)
	most := "df" + "f" + "df" + "d" + "fd" + "f" + "df" + "d" + "fd" + "df"
	other := "fd" + "f" + "fd" + "d" + "df" + "f" + "fd" + "d" + "df" + "df"
	checkCutText(t, most, other, "xx-xx-xx-xx-xx--", 5)
	checkCutText(t, "df"+most[:14], "df"+other[:14], "--xx-xx-xx-xx-xx", 5)
	checkCutText(t, strings.Repeat("df", maxSteps), strings.Repeat("fd", maxSteps), strings.Repeat("xx", maxSteps), maxSteps)
}

func TestPartsOfCutsBeginAndEndWithDifferentLetters(t *testing.T) {
	for _, strips := range [][]string{stripsOf(3, 4), stripsOf(4, 3), stripsOf(2, 5), mixedCard(maxSteps, maxSteps, 60).Strips} {
		for _, s := range strips {
			for _, u := range strips {
				end := -2
				for _, run := range impl.CutRuns(s, u) {
					if len(run) != 2 || run[0] < end+2 || run[0] >= run[1] || s[run[0]] == u[run[0]] || s[run[1]] == u[run[1]] {
						t.Fatalf("CutRuns(%q, %q) = %d", s, u, impl.CutRuns(s, u))
					}
					end = run[1]
				}
			}
		}
	}
}

// otherTexts returns texts that are no strips.
func otherTexts() []string {
	long := strings.Repeat("d", maxSteps)
	return []string{"", "d", "f", "dd", "ff", "x", "df ", " df", "dF", "Df", "d\nf", "dxf", "dfé", "\u0164f", "d\x00f", "dfx", "ddffx", long, long + "df", "fd" + long, long + long + "f", strings.Repeat("f", maxSteps+1) + "d", "d" + strings.Repeat("f", maxSteps+1), strings.Repeat("df", maxSteps+1), strings.Repeat("df", 100000)}
}

// textsWithOtherBytes returns short texts with each of the bytes that are no letters of a strip.
func textsWithOtherBytes() []string {
	var texts []string
	for i := range 256 {
		c := string([]byte{byte(i)})
		if c != "d" && c != "f" {
			texts = append(texts, c, c+"df", "d"+c+"f", "fd"+c, "f"+c+"d")
		}
	}
	return texts
}

// pairsOfOtherTexts returns pairs of texts of which the first one, or both, are no strips.
func pairsOfOtherTexts() [][2]string {
	long := strings.Repeat("d", maxSteps)
	texts := otherTexts()
	var pairs [][2]string
	for _, s := range texts {
		for _, u := range append([]string{"df", "fd", "dff", "ddff", "ddf", "ffd", long + "f", "f" + long, strings.Repeat("df", maxSteps)}, texts...) {
			pairs = append(pairs, [2]string{s, u})
		}
	}
	return pairs
}

// pairsOfOtherFrames returns pairs of strips of different frames.
func pairsOfOtherFrames() [][2]string {
	// The first ones have the same length, and in the next ones one strip is a part of the other one.
	pairs := [][2]string{{"ddf", "dff"}, {"dfdf", "dfff"}, {"ffdddd", "ffffdd"}, {"df", "dfd"}, {"fd", "fdf"}, {"df", "dfdf"}}
	var strips []string
	for down := 1; down <= maxSteps; down++ {
		for forward := 1; forward <= maxSteps; forward++ {
			strips = append(strips, impl.FlatStrip(down, forward), impl.HighStrip(down, forward))
		}
	}
	for _, s := range strips {
		for _, u := range strips {
			if impl.DownOf(s) != impl.DownOf(u) || impl.ForwardOf(s) != impl.ForwardOf(u) {
				pairs = append(pairs, [2]string{s, u})
			}
		}
	}
	return pairs
}

func TestCutsOfOtherTextsAreRejected(t *testing.T) {
	for _, pair := range pairsOfOtherTexts() {
		checkNoCuts(t, pair[0], pair[1])
	}
}

func TestCutsOfStripsOfDifferentFramesAreRejected(t *testing.T) {
	for _, pair := range pairsOfOtherFrames() {
		checkNoCuts(t, pair[0], pair[1])
	}
}

func TestLengthsOfAllSmallCards(t *testing.T) {
	for _, frame := range [][3]int{{1, 1, 6}, {1, 2, 5}, {2, 1, 5}, {2, 2, 4}, {3, 2, 3}, {3, 3, 2}, {1, 4, 3}, {4, 1, 3}} {
		for _, c := range cardsOf(frame[0], frame[1], frame[2]) {
			checkCardCuts(t, c)
		}
	}
}

func TestLengthsOfEveryNumberOfStrips(t *testing.T) {
	for n := 1; n <= maxStrips; n++ {
		for _, frame := range [][2]int{{1, 1}, {2, 3}, {4, 4}, {maxSteps, 1}, {1, maxSteps}, {maxSteps, maxSteps}} {
			checkCardCuts(t, mixedCard(frame[0], frame[1], n))
			plain, _ := impl.PlainCard(frame[0], frame[1], n)
			checkLengths(t, plain, 0, 2*(frame[0]+frame[1]))
			flat, high := impl.FlatStrip(frame[0], frame[1]), impl.HighStrip(frame[0], frame[1])
			cuts := (n - 1) * len(flat)
			c := cardOf(frame[0], frame[1], slices.Repeat([]string{flat, high}, maxStrips)[:n]...)
			checkLengths(t, c, cuts, 2*cuts+2*len(flat))
		}
	}
	for n := maxStrips + 1; n <= maxStrips+3; n++ {
		checkLengths(t, mixedCard(2, 2, n), -1, -1)
	}
}

func TestLengthsOfSomeCards(t *testing.T) {
	checkLengths(t, cardOf(1, 1, "df"), 0, 4)
	checkLengths(t, cardOf(1, 1, "df", "fd"), 2, 8)
	checkLengths(t, cardOf(2, 3, "fdfdf"), 0, 10)
	checkLengths(t, cardOf(2, 2, "ddff", "dfdf", "dfdf"), 2, 12)
	checkLengths(t, cardOf(2, 2, "ddff", "ffdd", "ddff"), 8, 24)
	// Only strips side by side are cut from each other.
	checkLengths(t, cardOf(2, 2, "ddff", "ddff", "ffdd"), 4, 16)
	checkLengths(t, cardOf(2, 2, "ddff", "dfdf", "fdfd"), 6, 20)
	checkLengths(t, impl.SampleCard(), 18, 50)
	most := cardOf(maxSteps, maxSteps, slices.Repeat([]string{impl.HighStrip(maxSteps, maxSteps), impl.FlatStrip(maxSteps, maxSteps)}, maxStrips/2)...)
	checkLengths(t, most, 144, 320)
}

func TestLengthsOfInvalidCards(t *testing.T) {
	for _, c := range invalidCards() {
		checkLengths(t, c, -1, -1)
	}
}
