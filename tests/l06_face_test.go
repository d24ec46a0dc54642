package tests

import (
	"math"
	"slices"
	"strings"
	"testing"

	"loop.example/g03305/impl"
)

// wantFaces returns the number of the face of every tile, strip by strip. All tiles begin as faces of their own, each named by its first tile, and faces with tiles that belong together become one.
func wantFaces(c impl.Card) [][]int {
	n := c.Down + c.Forward
	firsts := make([]int, n*len(c.Strips))
	for x := range firsts {
		firsts[x] = x
	}
	unite := func(x int, y int) {
		kept, lost := min(firsts[x], firsts[y]), max(firsts[x], firsts[y])
		for z := range firsts {
			if firsts[z] == lost {
				firsts[z] = kept
			}
		}
	}
	for k, s := range c.Strips {
		for i := range n {
			if i > 0 && s[i-1] == s[i] {
				unite(k*n+i-1, k*n+i)
			}
			if wantJoined(c, k, i, i) {
				unite(k*n+i, k*n+n+i)
			}
		}
	}
	return numbered(firsts, n)
}

// numbered returns the rank of every value among the different values, in rows of n.
func numbered(values []int, n int) [][]int {
	ranks := slices.Compact(slices.Sorted(slices.Values(values)))
	var rows [][]int
	for row := range slices.Chunk(values, n) {
		var numbers []int
		for _, x := range row {
			numbers = append(numbers, slices.Index(ranks, x))
		}
		rows = append(rows, numbers)
	}
	return rows
}

// wantJoined tells from both ends of two tiles whether they lie beside each other.
func wantJoined(c impl.Card, k int, i int, j int) bool {
	n := c.Down + c.Forward
	if k < 0 || k >= len(c.Strips)-1 || i < 0 || i >= n || j < 0 || j >= n {
		return false
	}
	here, beside := walkOf(c.Strips[k], 1), walkOf(c.Strips[k+1], 1)
	return here[i] == beside[j] && here[i+1] == beside[j+1]
}

// wantTile returns the steps before a tile and its letter; zeros and "" if there is none.
func wantTile(c impl.Card, k int, i int) (int, int, string) {
	if k < 0 || k >= len(c.Strips) || i < 0 || i >= len(c.Strips[k]) {
		return 0, 0, ""
	}
	before := c.Strips[k][:i]
	return strings.Count(before, "f"), strings.Count(before, "d"), c.Strips[k][i : i+1]
}

func checkTile(t *testing.T, c impl.Card, k int, i int, forward int, down int, letter string) {
	t.Helper()
	if x, y, l := impl.TilePlace(c, k, i); x != forward || y != down || l != letter {
		t.Errorf("TilePlace(%.80v, %d, %d) = %d, %d, %.40q, want %d, %d, %q", c, k, i, x, y, l, forward, down, letter)
	}
}

func checkJoined(t *testing.T, c impl.Card, k int, i int, j int, want bool) {
	t.Helper()
	if got := impl.AreJoined(c, k, i, j); got != want {
		t.Errorf("AreJoined(%.80v, %d, %d, %d) = %v", c, k, i, j, got)
	}
}

func checkFace(t *testing.T, c impl.Card, k int, i int, want int) {
	t.Helper()
	if got := impl.FaceOf(c, k, i); got != want {
		t.Errorf("FaceOf(%.80v, %d, %d) = %d, want %d", c, k, i, got, want)
	}
}

func checkSize(t *testing.T, c impl.Card, face int, want int) {
	t.Helper()
	if got := impl.FaceSize(c, face); got != want {
		t.Errorf("FaceSize(%.80v, %d) = %d, want %d", c, face, got, want)
	}
}

func checkCounts(t *testing.T, c impl.Card, tiles int, faces int) {
	t.Helper()
	if impl.TileCount(c) != tiles || impl.CountFaces(c) != faces {
		t.Errorf("%.80v: TileCount %d, CountFaces %d, want %d, %d", c, impl.TileCount(c), impl.CountFaces(c), tiles, faces)
	}
}

// checkTileAt checks every function of the chapter that takes a tile, for one tile or a position one past an end. The faces are those of all tiles.
func checkTileAt(t *testing.T, c impl.Card, faces [][]int, k int, i int) {
	t.Helper()
	forward, down, letter := wantTile(c, k, i)
	checkTile(t, c, k, i, forward, down, letter)
	face := -1
	if letter != "" {
		face = faces[k][i]
	}
	checkFace(t, c, k, i, face)
	for j := -1; j <= c.Down+c.Forward; j++ {
		checkJoined(t, c, k, i, j, wantJoined(c, k, i, j))
	}
}

// checkFacesAre expects these faces of a valid card from all functions of the chapter, and that they leave their argument alone.
func checkFacesAre(t *testing.T, c impl.Card, faces [][]int) {
	t.Helper()
	given, all := withSpare(c)
	before := slices.Clone(all)
	for k := -1; k <= len(c.Strips); k++ {
		for i := -1; i <= c.Down+c.Forward; i++ {
			checkTileAt(t, given, faces, k, i)
		}
	}
	tiles := slices.Concat(faces...)
	count := slices.Max(tiles) + 1
	checkCounts(t, given, len(tiles), count)
	for face := -1; face <= count; face++ {
		size := 0
		for _, other := range tiles {
			if other == face {
				size++
			}
		}
		checkSize(t, given, face, size)
	}
	if !slices.Equal(all, before) {
		t.Errorf("a function of faces changed the card %.80v or the memory behind it to %.80q", c, all)
	}
}

func checkFaces(t *testing.T, c impl.Card) {
	t.Helper()
	checkFacesAre(t, c, wantFaces(c))
}

// checkFaceText expects the faces that are written as letters, with a word for each strip.
func checkFaceText(t *testing.T, c impl.Card, text string) {
	t.Helper()
	var faces [][]int
	for _, word := range strings.Fields(text) {
		var numbers []int
		for _, letter := range []byte(word) {
			numbers = append(numbers, int(letter-'a'))
		}
		faces = append(faces, numbers)
	}
	checkFacesAre(t, c, faces)
}

// checkNoFaces expects that every function of the chapter rejects a card, and that they leave it alone.
func checkNoFaces(t *testing.T, c impl.Card) {
	t.Helper()
	given, all := withSpare(c)
	before := slices.Clone(all)
	checkCounts(t, given, -1, 0)
	for _, n := range []int{math.MinInt, -2, -1, 0, 1, 2, 3, 16, 100, math.MaxInt} {
		checkSize(t, given, n, 0)
	}
	for _, k := range []int{math.MinInt, -1, 0, 1, len(c.Strips) - 1, len(c.Strips), math.MaxInt} {
		for _, i := range []int{math.MinInt, -1, 0, 1, 2, 3, 16, math.MaxInt} {
			checkTile(t, given, k, i, 0, 0, "")
			checkFace(t, given, k, i, -1)
			checkJoined(t, given, k, i, i, false)
			checkJoined(t, given, k, i, 0, false)
		}
	}
	if !slices.Equal(all, before) {
		t.Errorf("a function of faces changed the card %.80v or the memory behind it to %.80q", c, all)
	}
}

// cardsOf returns all cards of this frame with 1 to n strips.
func cardsOf(down int, forward int, n int) []impl.Card {
	var cards []impl.Card
	for _, strips := range listsOf(stripsOf(down, forward), n) {
		if len(strips) > 0 {
			cards = append(cards, cardOf(down, forward, strips...))
		}
	}
	return cards
}

// checkPromise expects that every tile is in one face, that tiles that belong together are in the same one, and that faces are numbered by their first tiles.
func checkPromise(t *testing.T, c impl.Card) {
	t.Helper()
	count, next, sum := impl.CountFaces(c), 0, 0
	for face := range count {
		sum += impl.FaceSize(c, face)
	}
	for k, s := range c.Strips {
		lastStep := map[int]int{}
		for i := range len(s) {
			face := impl.FaceOf(c, k, i)
			if face < 0 || face > next {
				t.Fatalf("FaceOf(%v, %d, %d) = %d after %d other faces", c, k, i, face, next)
			}
			next = max(next, face+1)
			if i > 0 && (s[i-1] == s[i]) != (impl.FaceOf(c, k, i-1) == face) {
				t.Errorf("%v: steps %d and %d of strip %d are in the faces %d and %d", c, i-1, i, k, impl.FaceOf(c, k, i-1), face)
			}
			if impl.AreJoined(c, k, i, i) && impl.FaceOf(c, k+1, i) != face {
				t.Errorf("%v: tiles %d of the strips %d and %d are joined, but in different faces", c, i, k, k+1)
			}
			// Parts of a face that are apart in one strip would be at different places, and no other strip can make them meet.
			if last, ok := lastStep[face]; ok && last != i-1 {
				t.Errorf("%v: face %d has parts apart in strip %d", c, face, k)
			}
			lastStep[face] = i
		}
	}
	if next != count || sum != impl.TileCount(c) {
		t.Errorf("%v: %d faces with %d tiles, want %d with %d", c, count, sum, next, impl.TileCount(c))
	}
}

func TestFacesOfAllSmallCards(t *testing.T) {
	for _, frame := range [][3]int{{1, 1, 7}, {1, 2, 5}, {2, 1, 5}, {2, 2, 4}, {2, 3, 3}, {3, 2, 3}, {3, 3, 2}, {1, 4, 3}, {4, 1, 3}} {
		for _, c := range cardsOf(frame[0], frame[1], frame[2]) {
			checkFaces(t, c)
		}
	}
}

func TestEveryTileIsInOneFace(t *testing.T) {
	for _, frame := range [][3]int{{1, 1, 5}, {1, 3, 3}, {3, 1, 3}, {2, 2, 3}, {3, 2, 2}} {
		for _, c := range cardsOf(frame[0], frame[1], frame[2]) {
			checkPromise(t, c)
		}
	}
	for n := 1; n <= maxStrips; n++ {
		for _, frame := range [][2]int{{1, maxSteps}, {maxSteps, 1}, {3, 4}, {maxSteps, maxSteps}} {
			checkPromise(t, mixedCard(frame[0], frame[1], n))
		}
	}
	checkPromise(t, impl.SampleCard())
}

func TestFacesOfEveryNumberOfStrips(t *testing.T) {
	for n := 1; n <= maxStrips; n++ {
		for _, frame := range [][2]int{{1, 1}, {2, 3}, {4, 4}, {maxSteps, 1}, {1, maxSteps}, {maxSteps, maxSteps}} {
			checkFaces(t, mixedCard(frame[0], frame[1], n))
		}
	}
	for n := maxStrips + 1; n <= maxStrips+3; n++ {
		checkNoFaces(t, mixedCard(2, 2, n))
	}
}

func TestFacesOfEveryFrame(t *testing.T) {
	for down := 1; down <= maxSteps; down++ {
		for forward := 1; forward <= maxSteps; forward++ {
			strips := append(nearlyHighStrips(down, forward), impl.FlatStrip(down, forward), impl.HighStrip(down, forward))
			checkFaces(t, cardOf(down, forward, strips...))
		}
	}
}

func TestFacesOfOneStripAreItsRuns(t *testing.T) {
	checkFaceText(t, cardOf(1, 1, "df"), "ab")
	checkFaceText(t, cardOf(1, 1, "fd"), "ab")
	checkFaceText(t, cardOf(2, 3, "ffddf"), "aabbc")
	checkFaceText(t, cardOf(3, 3, "fdfdfd"), "abcdef")
	for _, s := range append(stripsOf(4, 3), impl.FlatStrip(maxSteps, 1), impl.HighStrip(maxSteps, maxSteps), strings.Repeat("df", maxSteps)) {
		c := cardOf(impl.DownOf(s), impl.ForwardOf(s), s)
		runs := impl.RunsOf(s)
		checkCounts(t, c, len(s), len(runs))
		for face, run := range runs {
			checkSize(t, c, face, run)
		}
		checkSize(t, c, len(runs), 0)
	}
}

func TestEqualStripsHaveTheSameFaces(t *testing.T) {
	for n := 1; n <= maxStrips; n++ {
		checkFaceText(t, cardOf(2, 3, slices.Repeat([]string{"dffdf"}, n)...), strings.Repeat("abbcd ", n))
		c, _ := impl.PlainCard(maxSteps, maxSteps, n)
		checkCounts(t, c, 2*maxSteps*n, 2)
		checkSize(t, c, 0, maxSteps*n)
		checkSize(t, c, 1, maxSteps*n)
		checkSize(t, c, 2, 0)
	}
}

func TestTilesOfOneCard(t *testing.T) {
	c := cardOf(2, 3, "dfdff", "ffddf", "dfdff")
	checkTile(t, c, 0, 0, 0, 0, "d")
	checkTile(t, c, 0, 1, 0, 1, "f")
	checkTile(t, c, 0, 4, 2, 2, "f")
	checkTile(t, c, 1, 0, 0, 0, "f")
	checkTile(t, c, 1, 2, 2, 0, "d")
	checkTile(t, c, 1, 3, 2, 1, "d")
	checkTile(t, c, 2, 2, 1, 1, "d")
	checkTile(t, c, 2, 4, 2, 2, "f")
	for _, at := range [][2]int{{-1, 0}, {3, 0}, {0, -1}, {0, 5}, {1, 5}, {2, 5}, {2, 6}, {-1, -1}, {3, 5}} {
		checkTile(t, c, at[0], at[1], 0, 0, "")
		checkFace(t, c, at[0], at[1], -1)
	}
	checkJoined(t, c, 0, 4, 4, true)
	checkJoined(t, c, 1, 4, 4, true)
	checkJoined(t, c, 0, 2, 2, false)
	checkJoined(t, c, 0, 1, 1, false)
	checkJoined(t, c, -1, 0, 0, false)
	checkJoined(t, c, 2, 4, 4, false)
	checkJoined(t, c, 0, 5, 5, false)
	checkJoined(t, c, 0, -1, -1, false)
	checkFaceText(t, c, "abcdd eeffd ghidd")
}

func TestTilesAtDifferentPlacesAreNotJoined(t *testing.T) {
	// Step 2 has the same letter in both strips, and only step 5 also has the same place.
	for _, c := range []impl.Card{cardOf(3, 3, "ddfffd", "fffddd"), cardOf(3, 3, "ffdddf", "dddfff")} {
		checkJoined(t, c, 0, 2, 2, false)
		checkJoined(t, c, 0, 5, 5, true)
		checkFaceText(t, c, "aabbbc dddccc")
	}
	// Some steps have the same letter, but none of them has the same place.
	checkFaceText(t, cardOf(2, 3, "dffdf", "fffdd"), "abbcd eeeff")
	checkFaceText(t, cardOf(3, 3, "ddffdf", "fdffdd"), "aabbcd efgghh")
	// The places are the same, but not the letters.
	c := cardOf(1, 1, "df", "fd")
	checkFaceText(t, c, "ab cd")
	for i := range 2 {
		for j := range 2 {
			checkJoined(t, c, 0, i, j, false)
		}
	}
}

func TestFacesThatMeetAgainBehindACut(t *testing.T) {
	// In each of these cards, tiles at the same place are cut from the strip between them, but their faces meet elsewhere in this strip.
	checkFaceText(t, cardOf(2, 2, "ddff", "fddf", "ddff"), "aabb cddb eebb")
	checkFaceText(t, cardOf(3, 1, "ddfd", "dfdd", "ddfd"), "aabc adcc aaec")
	checkFaceText(t, cardOf(2, 4, "ddffff", "fffddf", "ffddff", "fddfff", "ddffff"), "aabbbb cccddb cceebb cffbbb ggbbbb")
	// The same in the other order: only the last step shows that the first and the last strip have this face in common.
	checkFaceText(t, cardOf(2, 4, "ddffff", "fddfff", "ffddff", "fffddf", "ddffff"), "aabbbb cddbbb cceebb cccffb ggbbbb")
	// The face at the upright page becomes narrow and wide again, and ends in the last strip with a single tile.
	checkFaceText(t, cardOf(3, 2, "dddff", "ddfdf", "dfddf", "ddfdf", "dffdd"), "aaabb aacdb aeddb aafdb agghh")
}

func TestFacesWithPartsThatAreApart(t *testing.T) {
	// A strip that lies elsewhere parts equal strips.
	checkFaceText(t, cardOf(2, 2, "ddff", "ffdd", "ddff"), "aabb ccdd eeff")
	// Two steps with one letter are apart in a strip, and the same steps follow each other in the next strip, but at another place.
	checkFaceText(t, cardOf(2, 2, "dfdf", "ddff", "dfdf"), "abcd aadd aefd")
	checkFaceText(t, cardOf(2, 2, "fdfd", "ffdd", "fdfd"), "abcd aadd aefd")
	checkFaceText(t, impl.SampleCard(), "aaabbbb acdeefb acdeefb gghheei jjjkkkk")
}

func TestFacesAtTheEnds(t *testing.T) {
	strips := slices.Repeat([]string{"df", "fd"}, maxStrips/2)
	most := cardOf(1, 1, strips...)
	checkFaceText(t, most, "ab cd ef gh ij kl mn op qr st")
	checkFace(t, most, 0, 0, 0)
	checkFace(t, most, maxStrips-1, 1, 2*maxStrips-1)
	checkSize(t, most, 0, 1)
	checkSize(t, most, 2*maxStrips-1, 1)
	checkSize(t, most, 2*maxStrips, 0)
	checkSize(t, most, -1, 0)
	flat, high := impl.FlatStrip(maxSteps, maxSteps), impl.HighStrip(maxSteps, maxSteps)
	greatest := cardOf(maxSteps, maxSteps, slices.Repeat([]string{flat, high}, maxStrips/2)...)
	checkFaces(t, greatest)
	checkCounts(t, greatest, 2*maxSteps*maxStrips, 2*maxStrips)
	checkFace(t, greatest, maxStrips-1, 2*maxSteps-1, 2*maxStrips-1)
	checkSize(t, greatest, 2*maxStrips-1, maxSteps)
	for _, c := range []impl.Card{most, greatest} {
		n := c.Down + c.Forward
		for _, at := range [][2]int{{maxStrips, 0}, {maxStrips, n - 1}, {maxStrips - 1, n}, {0, n}, {-1, 0}, {-1, n - 1}, {0, -1}, {maxStrips - 1, -1}} {
			checkTile(t, c, at[0], at[1], 0, 0, "")
			checkFace(t, c, at[0], at[1], -1)
		}
	}
}

func TestOnlyStripsSideBySideAreJoined(t *testing.T) {
	for n := 1; n <= maxStrips; n++ {
		c, _ := impl.PlainCard(2, 3, n)
		for k := -2; k <= n+1; k++ {
			for i := -2; i <= 6; i++ {
				for j := -2; j <= 6; j++ {
					checkJoined(t, c, k, i, j, k >= 0 && k < n-1 && i == j && i >= 0 && i < 5)
				}
			}
		}
	}
}

func TestGreatNumbersForTilesAndFaces(t *testing.T) {
	plain, _ := impl.PlainCard(2, 2, maxStrips)
	for _, c := range []impl.Card{cardOf(1, 1, "df"), cardOf(2, 2, "ddff", "fddf", "ddff"), plain, impl.SampleCard()} {
		n := c.Down + c.Forward
		for _, great := range greatNumbers {
			checkSize(t, c, great, 0)
			for x := -1; x <= max(n, len(c.Strips)); x++ {
				checkTile(t, c, great, x, 0, 0, "")
				checkTile(t, c, x, great, 0, 0, "")
				checkFace(t, c, great, x, -1)
				checkFace(t, c, x, great, -1)
				checkJoined(t, c, great, x, x, false)
				checkJoined(t, c, x, great, great, false)
				checkJoined(t, c, 0, x, great, false)
				checkJoined(t, c, 0, great, x, false)
			}
			checkTile(t, c, great, great, 0, 0, "")
			checkFace(t, c, great, great, -1)
			checkJoined(t, c, great, great, great, false)
		}
	}
}

func TestFacesOfInvalidCards(t *testing.T) {
	for _, c := range invalidCards() {
		checkNoFaces(t, c)
	}
}
