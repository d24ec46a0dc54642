package tests

import (
	"math"
	"slices"
	"strings"
	"testing"

	"loop.example/g03305/impl"
)

const maxPage = 40

// greatNumbers are far outside of every range; some would be inside if they were narrowed to fewer bits.
var greatNumbers = []int{math.MinInt, math.MinInt + 1, -1 << 62, -1<<32 + 1, -1 << 32, -256, -255, 256, 257, 1 << 32, 1<<32 + 1, 1<<32 + 2, 1 << 62, math.MaxInt - 1, math.MaxInt}

// walkOf returns the points of s at one opening, step by step from the upright page on.
func walkOf(s string, opening int) [][2]int {
	height := strings.Count(s, "d")
	at := [][2]int{{height, 0}, {0, height}, {-height, 0}}[opening]
	down := [][2]int{{-1, 0}, {0, -1}, {1, 0}}[opening]
	points := [][2]int{at}
	for i := range len(s) {
		move := [2]int{1, 0}
		if s[i] == 'd' {
			move = down
		}
		at[0] += move[0]
		at[1] += move[1]
		points = append(points, at)
	}
	return points
}

// endsOf returns the least and the greatest first number of points.
func endsOf(points [][2]int) (int, int) {
	least, greatest := points[0][0], points[0][0]
	for _, p := range points {
		least, greatest = min(least, p[0]), max(greatest, p[0])
	}
	return least, greatest
}

func checkPlace(t *testing.T, s string, k int, opening int, want [2]int) {
	t.Helper()
	if x, y, ok := impl.PlaceOf(s, k, opening); x != want[0] || y != want[1] || !ok {
		t.Errorf("PlaceOf(%q, %d, %d) = %d, %d, %v, want %d, true", s, k, opening, x, y, ok, want)
	}
}

func checkNoPlace(t *testing.T, s string, k int, opening int) {
	t.Helper()
	if x, y, ok := impl.PlaceOf(s, k, opening); x != 0 || y != 0 || ok {
		t.Errorf("PlaceOf(%.40q, %d, %d) = %d, %d, %v, want 0, 0, false", s, k, opening, x, y, ok)
	}
}

func checkStepLength(t *testing.T, s string, k int, opening int, want int) {
	t.Helper()
	if got := impl.StepLength(s, k, opening); got != want {
		t.Errorf("StepLength(%.40q, %d, %d) = %d, want %d", s, k, opening, got, want)
	}
}

// checkPoints checks PlaceOf and StepLength for all points of a strip at every opening, and past both ends.
func checkPoints(t *testing.T, s string) {
	t.Helper()
	for opening := range 3 {
		for k, point := range walkOf(s, opening) {
			checkPlace(t, s, k, opening, point)
			if k > 0 {
				checkStepLength(t, s, k, opening, 1)
			}
		}
		checkNoPlace(t, s, -1, opening)
		checkNoPlace(t, s, len(s)+1, opening)
		checkStepLength(t, s, -1, opening, 0)
		checkStepLength(t, s, 0, opening, 0)
		checkStepLength(t, s, len(s)+1, opening, 0)
		checkStepLength(t, s, len(s)+2, opening, 0)
	}
	for _, opening := range []int{-2, -1, 3, 4} {
		for k := -1; k <= len(s)+1; k++ {
			checkNoPlace(t, s, k, opening)
			checkStepLength(t, s, k, opening, 0)
		}
	}
}

// checkReach expects that the closed strip reaches so far, and is hidden just by pages that are not smaller.
func checkReach(t *testing.T, s string, reach int) {
	t.Helper()
	if got := impl.ReachClosed(s); got != reach {
		t.Errorf("ReachClosed(%q) = %d, want %d", s, got, reach)
	}
	for page := -2; page <= maxPage+2; page++ {
		want := page >= 1 && page >= reach && page <= maxPage
		if got := impl.StaysInside(s, page); got != want {
			t.Errorf("StaysInside(%q, %d) = %v, want %v", s, page, got, want)
		}
	}
}

// checkPlaces checks every function of the chapter for a strip.
func checkPlaces(t *testing.T, s string) {
	t.Helper()
	checkPoints(t, s)
	_, reach := endsOf(walkOf(s, 0))
	checkReach(t, s, reach)
	least, greatest := endsOf(walkOf(s, 2))
	if got := impl.SpreadOf(s); got != greatest-least || got != len(s) {
		t.Errorf("SpreadOf(%q) = %d, want %d", s, got, greatest-least)
	}
}

// checkNoPlaces expects that every function of the chapter rejects s.
func checkNoPlaces(t *testing.T, s string) {
	t.Helper()
	for _, k := range []int{math.MinInt, -1, 0, 1, 2, len(s) - 1, len(s), len(s) + 1, math.MaxInt} {
		for opening := -1; opening <= 3; opening++ {
			checkNoPlace(t, s, k, opening)
			checkStepLength(t, s, k, opening, 0)
		}
	}
	if impl.ReachClosed(s) != 0 || impl.SpreadOf(s) != -1 {
		t.Errorf("%.40q: ReachClosed %d, SpreadOf %d, want 0, -1", s, impl.ReachClosed(s), impl.SpreadOf(s))
	}
	for _, page := range []int{math.MinInt, -1, 0, 1, 2, len(s), 16, maxPage, maxPage + 1, math.MaxInt} {
		if impl.StaysInside(s, page) {
			t.Errorf("StaysInside accepts %.40q for a page of %d", s, page)
		}
	}
}

// nearlyHighStrips returns strips that are high but for one step that is taken earlier or later.
func nearlyHighStrips(down int, forward int) []string {
	d, f := strings.Repeat("d", down), strings.Repeat("f", forward)
	return []string{"d" + f + d[1:], f[1:] + d + "f", f[1:] + "df" + d[1:]}
}

func TestPlacesOfAllShortWords(t *testing.T) {
	checkWords(t, 9, checkPlaces, checkNoPlaces)
}

func TestPlacesOfStripsOfTheGreatestFrame(t *testing.T) {
	for i, s := range stripsOf(maxSteps, maxSteps) {
		if i%13 == 0 {
			checkPlaces(t, s)
		}
		if reach := impl.ReachClosed(s); reach < maxSteps || reach > 2*maxSteps || impl.SpreadOf(s) != 2*maxSteps {
			t.Errorf("%q: ReachClosed %d, SpreadOf %d", s, reach, impl.SpreadOf(s))
		}
	}
	checkNoPlaces(t, strings.Repeat("fd", maxSteps)+"d")
	checkNoPlaces(t, strings.Repeat("df", maxSteps)+"f")
}

func TestPlacesOfOneStrip(t *testing.T) {
	closed := [][2]int{{2, 0}, {1, 0}, {2, 0}, {1, 0}, {2, 0}, {3, 0}}
	right := [][2]int{{0, 2}, {0, 1}, {1, 1}, {1, 0}, {2, 0}, {3, 0}}
	flat := [][2]int{{-2, 0}, {-1, 0}, {0, 0}, {1, 0}, {2, 0}, {3, 0}}
	for opening, points := range [][][2]int{closed, right, flat} {
		for k, point := range points {
			checkPlace(t, "dfdff", k, opening, point)
		}
	}
	checkReach(t, "dfdff", 3)
	if got := impl.SpreadOf("dfdff"); got != 5 {
		t.Errorf("SpreadOf(%q) = %d", "dfdff", got)
	}
}

func TestStripsEndOnBothPages(t *testing.T) {
	for down := 1; down <= maxSteps; down++ {
		for forward := 1; forward <= maxSteps; forward++ {
			strips := append(nearlyHighStrips(down, forward), impl.FlatStrip(down, forward), impl.HighStrip(down, forward))
			for _, s := range strips {
				checkPlace(t, s, 0, 0, [2]int{down, 0})
				checkPlace(t, s, 0, 1, [2]int{0, down})
				checkPlace(t, s, 0, 2, [2]int{-down, 0})
				for opening := range 3 {
					checkPlace(t, s, down+forward, opening, [2]int{forward, 0})
				}
			}
		}
	}
}

func TestFlatStripsReachLeastAndHighStripsMost(t *testing.T) {
	for down := 1; down <= maxSteps; down++ {
		for forward := 1; forward <= maxSteps; forward++ {
			flat, high := impl.FlatStrip(down, forward), impl.HighStrip(down, forward)
			checkPlaces(t, flat)
			checkPlaces(t, high)
			checkReach(t, flat, max(down, forward))
			checkReach(t, high, down+forward)
			// The corner of the flat strip lies in the fold, and the corner of the high strip above the edge of the flat page.
			for opening, place := range [][2]int{{down + forward, 0}, {forward, down}, {forward - down, 0}} {
				checkPlace(t, flat, down, opening, [2]int{0, 0})
				checkPlace(t, high, forward, opening, place)
			}
		}
	}
}

func TestNoStripReachesFartherThanTheSumOfItsFrame(t *testing.T) {
	for down := 1; down <= 6; down++ {
		for forward := 1; forward <= 5; forward++ {
			high := impl.HighStrip(down, forward)
			for _, s := range stripsOf(down, forward) {
				reach := impl.ReachClosed(s)
				if reach < max(down, forward) || reach > down+forward || (reach == down+forward) != (s == high) {
					t.Errorf("ReachClosed(%q) = %d", s, reach)
				}
				if impl.SpreadOf(s) != down+forward || !impl.StaysInside(s, down+forward) {
					t.Errorf("%q: SpreadOf %d, StaysInside %v", s, impl.SpreadOf(s), impl.StaysInside(s, down+forward))
				}
			}
		}
	}
}

func TestReachIsAtAnEndOrAMountain(t *testing.T) {
	for _, s := range append(stripsOf(5, 4), stripsOf(3, maxSteps)...) {
		far := max(impl.DownOf(s), impl.ForwardOf(s))
		for k := range len(s) {
			if impl.IsMountain(s, k) {
				x, _, _ := impl.PlaceOf(s, k, 0)
				far = max(far, x)
			}
		}
		checkReach(t, s, far)
	}
}

func TestPagesMustBeAtLeastTheReach(t *testing.T) {
	for _, c := range []struct {
		s     string
		reach int
	}{{"df", 1}, {"fd", 2}, {"ddf", 2}, {"dff", 2}, {"dfdf", 2}, {"fddf", 3}, {"ffdd", 4}, {"dfffd", 4}, {"fffffdfd", 7}, {impl.FlatStrip(8, 8), 8}, {impl.HighStrip(8, 1), 9}, {impl.HighStrip(1, 8), 9}, {impl.HighStrip(8, 8), 16}} {
		checkReach(t, c.s, c.reach)
		if !impl.StaysInside(c.s, c.reach) || impl.StaysInside(c.s, c.reach-1) || impl.StaysInside(c.s, 0) || !impl.StaysInside(c.s, maxPage) || impl.StaysInside(c.s, maxPage+1) {
			t.Errorf("StaysInside(%q) is wrong at an end of the range of pages", c.s)
		}
	}
}

func TestPlacesOfGreatNumbersAreRejected(t *testing.T) {
	for _, s := range []string{"df", "fd", "dfdff", impl.FlatStrip(maxSteps, maxSteps), impl.HighStrip(maxSteps, maxSteps)} {
		for _, n := range greatNumbers {
			for opening := range 3 {
				checkNoPlace(t, s, n, opening)
				checkStepLength(t, s, n, opening, 0)
			}
			for k := range len(s) + 1 {
				checkNoPlace(t, s, k, n)
				checkStepLength(t, s, k, n, 0)
			}
			checkNoPlace(t, s, n, n)
			checkStepLength(t, s, n, n, 0)
			if impl.StaysInside(s, n) {
				t.Errorf("StaysInside accepts %q for a page of %d", s, n)
			}
		}
	}
}

func TestPlacesOfOtherTextsAreRejected(t *testing.T) {
	checkNoPlaces(t, "")
	for n := 1; n <= maxSteps+1; n++ {
		checkNoPlaces(t, strings.Repeat("d", n))
		checkNoPlaces(t, strings.Repeat("f", n))
	}
	for i := range 256 {
		c := string([]byte{byte(i)})
		if c != "d" && c != "f" {
			for _, s := range []string{c, c + "df", "d" + c + "f", "fd" + c} {
				checkNoPlaces(t, s)
			}
		}
	}
	tooLong := []string{strings.Repeat("d", maxSteps+1) + "f", "d" + strings.Repeat("f", maxSteps+1), "f" + strings.Repeat("d", maxSteps+1), strings.Repeat("df", 100000), strings.Repeat("d", 100000)}
	for _, s := range slices.Concat(tooLong, []string{"DF", "df\n", " fd", "d f", "dfé", "\u0164df", "d\u0166f", "df\xff"}) {
		checkNoPlaces(t, s)
	}
}
