package tests

import (
	"math"
	"slices"
	"strings"
	"testing"

	"loop.example/g03305/impl"
)

// partsOf returns the longest parts of equal letters of a string with the letters d and f.
func partsOf(s string) []string {
	return strings.Fields(strings.ReplaceAll(strings.ReplaceAll(s, "df", "d f"), "fd", "f d"))
}

// wantRuns returns the lengths of the parts of s, and the places where one part ends and the next one begins.
func wantRuns(s string) ([]int, []int) {
	var runs, corners []int
	sum := 0
	for _, part := range partsOf(s) {
		if sum > 0 {
			corners = append(corners, sum)
		}
		runs = append(runs, len(part))
		sum += len(part)
	}
	return runs, corners
}

// wantFolds returns how many folds a strip has, with those at the pages.
func wantFolds(s string) int {
	folds := len(partsOf(s)) - 1
	if s[0] == 'f' {
		folds++
	}
	if s[len(s)-1] == 'd' {
		folds++
	}
	return folds
}

// checkFolds expects these kinds of the corners of s, from 1 to its length minus 1: m and v for mountains and valleys, and a point for none.
func checkFolds(t *testing.T, s string, kinds string) {
	t.Helper()
	if len(kinds) != len(s)-1 {
		t.Fatalf("%q has no folds %q", s, kinds)
	}
	for k := -2; k <= len(s)+2; k++ {
		mountain := k >= 1 && k < len(s) && kinds[k-1] == 'm'
		valley := k >= 1 && k < len(s) && kinds[k-1] == 'v'
		if impl.IsMountain(s, k) != mountain || impl.IsValley(s, k) != valley {
			t.Errorf("%q at %d: IsMountain %v, IsValley %v, want %v, %v", s, k, impl.IsMountain(s, k), impl.IsValley(s, k), mountain, valley)
		}
	}
	for _, k := range []int{math.MinInt, math.MinInt + 1, -len(s), 2 * len(s), 1<<32 + 1, math.MaxInt} {
		if impl.IsMountain(s, k) || impl.IsValley(s, k) {
			t.Errorf("%q has a fold at %d", s, k)
		}
	}
}

// checkCorners checks every function of the chapter for a strip.
func checkCorners(t *testing.T, s string) {
	t.Helper()
	runs, corners := wantRuns(s)
	kinds := make([]byte, len(s)-1)
	for i := range kinds {
		kinds[i] = '.'
	}
	for _, k := range corners {
		kinds[k-1] = map[string]byte{"fd": 'm', "df": 'v'}[s[k-1:k+1]]
	}
	checkFolds(t, s, string(kinds))
	if got := impl.CornersOf(s); !slices.Equal(got, corners) {
		t.Errorf("CornersOf(%q) = %d, want %d", s, got, corners)
	}
	if got := impl.RunsOf(s); !slices.Equal(got, runs) {
		t.Errorf("RunsOf(%q) = %d, want %d", s, got, runs)
	}
	if got := impl.CountFolds(s); got != wantFolds(s) {
		t.Errorf("CountFolds(%q) = %d, want %d", s, got, wantFolds(s))
	}
	if got, want := impl.CountPeaks(s), strings.Count(string(kinds), "m"); got != want {
		t.Errorf("CountPeaks(%q) = %d, want %d", s, got, want)
	}
	if got := impl.FromRuns(s[:1], impl.RunsOf(s)); got != s {
		t.Errorf("FromRuns(%q, %d) = %q, want %q", s[:1], impl.RunsOf(s), got, s)
	}
}

// checkNoCorners expects that every function of the chapter rejects s.
func checkNoCorners(t *testing.T, s string) {
	t.Helper()
	if c, r := impl.CornersOf(s), impl.RunsOf(s); len(c) != 0 || len(r) != 0 {
		t.Errorf("%.40q: CornersOf %.10d, RunsOf %.10d, want none", s, c, r)
	}
	if n, m := impl.CountFolds(s), impl.CountPeaks(s); n != -1 || m != -1 {
		t.Errorf("%.40q: CountFolds %d, CountPeaks %d, want -1, -1", s, n, m)
	}
	for k := -1; k <= min(len(s), 20)+1; k++ {
		if impl.IsMountain(s, k) || impl.IsValley(s, k) {
			t.Errorf("%.40q, which is no strip, has a fold at %d", s, k)
		}
	}
}

func checkFromRuns(t *testing.T, first string, runs []int, want string) {
	t.Helper()
	if got := impl.FromRuns(first, runs); got != want {
		t.Errorf("FromRuns(%.40q, %.40d) = %.40q, want %.40q", first, runs, got, want)
	}
}

func TestCornersOfSmallStrips(t *testing.T) {
	for _, c := range []struct {
		strip, kinds string
		runs         []int
		folds, peaks int
	}{
		{"df", "v", []int{1, 1}, 1, 0},
		{"fd", "m", []int{1, 1}, 3, 1},
		{"ddf", ".v", []int{2, 1}, 1, 0},
		{"ffd", ".m", []int{2, 1}, 3, 1},
		{"dfd", "vm", []int{1, 1, 1}, 3, 1},
		{"fdf", "mv", []int{1, 1, 1}, 3, 1},
		{"ffdfd", ".mvm", []int{2, 1, 1, 1}, 5, 2},
		{"dfdff", "vmv.", []int{1, 1, 1, 2}, 3, 1},
		{"dffd", "v.m", []int{1, 2, 1}, 3, 1},
		{"fddf", "m.v", []int{1, 2, 1}, 3, 1},
		{"dfdffdf", "vmv.mv", []int{1, 1, 1, 2, 1, 1}, 5, 2},
		{"ffddffd", ".m.v.m", []int{2, 2, 2, 1}, 5, 2},
	} {
		checkFolds(t, c.strip, c.kinds)
		if got := impl.RunsOf(c.strip); !slices.Equal(got, c.runs) {
			t.Errorf("RunsOf(%q) = %d, want %d", c.strip, got, c.runs)
		}
		if n, m := impl.CountFolds(c.strip), impl.CountPeaks(c.strip); n != c.folds || m != c.peaks {
			t.Errorf("%q: CountFolds %d, CountPeaks %d, want %d, %d", c.strip, n, m, c.folds, c.peaks)
		}
		checkFromRuns(t, c.strip[:1], c.runs, c.strip)
		checkCorners(t, c.strip)
	}
}

func TestCornersOfAllWords(t *testing.T) {
	checkWords(t, 10, checkCorners, checkNoCorners)
}

func TestCornersOfStripsOfTheGreatestFrame(t *testing.T) {
	for _, s := range stripsOf(maxSteps, maxSteps) {
		checkCorners(t, s)
	}
}

func TestCornersOfFlatAndHighStrips(t *testing.T) {
	for down := 1; down <= maxSteps; down++ {
		for forward := 1; forward <= maxSteps; forward++ {
			flat, high := impl.FlatStrip(down, forward), impl.HighStrip(down, forward)
			checkCorners(t, flat)
			checkCorners(t, high)
			if !slices.Equal(impl.CornersOf(flat), []int{down}) || !impl.IsValley(flat, down) || impl.CountFolds(flat) != 1 || impl.CountPeaks(flat) != 0 || !slices.Equal(impl.RunsOf(flat), []int{down, forward}) {
				t.Errorf("%q is not flat with one valley", flat)
			}
			if !slices.Equal(impl.CornersOf(high), []int{forward}) || !impl.IsMountain(high, forward) || impl.CountFolds(high) != 3 || impl.CountPeaks(high) != 1 || !slices.Equal(impl.RunsOf(high), []int{forward, down}) {
				t.Errorf("%q is not high with one mountain", high)
			}
			checkFromRuns(t, "d", []int{down, forward}, flat)
			checkFromRuns(t, "f", []int{forward, down}, high)
		}
	}
}

func TestStripsThatTurnAtEveryStep(t *testing.T) {
	for n := 1; n <= maxSteps; n++ {
		down, forward := strings.Repeat("df", n), strings.Repeat("fd", n)
		for _, s := range []string{down, forward, down + "d", forward + "f"} {
			if len(s) > 2*maxSteps {
				checkNoCorners(t, s)
				continue
			}
			checkCorners(t, s)
			c, r := impl.CornersOf(s), impl.RunsOf(s)
			if len(c) != len(s)-1 || c[0] != 1 || c[len(c)-1] != len(s)-1 || slices.Max(r) != 1 || len(r) != len(s) {
				t.Errorf("%q: CornersOf %d, RunsOf %d", s, c, r)
			}
		}
		if impl.CountPeaks(down) != n-1 || impl.CountPeaks(forward) != n || impl.CountFolds(down) != 2*n-1 || impl.CountFolds(forward) != 2*n+1 {
			t.Errorf("%q: CountPeaks %d, CountFolds %d; %q: %d, %d", down, impl.CountPeaks(down), impl.CountFolds(down), forward, impl.CountPeaks(forward), impl.CountFolds(forward))
		}
	}
}

func TestMountainsAndValleysAlternate(t *testing.T) {
	for _, s := range append(stripsOf(4, 5), stripsOf(maxSteps, 2)...) {
		corners := impl.CornersOf(s)
		mountains := 0
		for i, k := range corners {
			if impl.IsMountain(s, k) == impl.IsValley(s, k) {
				t.Errorf("%q at %d is not either a mountain or a valley", s, k)
			}
			if i > 0 && impl.IsMountain(s, k) == impl.IsMountain(s, corners[i-1]) {
				t.Errorf("%q: the folds at %d and %d are of one kind", s, corners[i-1], k)
			}
			if impl.IsMountain(s, k) {
				mountains++
			}
		}
		if got := impl.CountPeaks(s); got != mountains {
			t.Errorf("CountPeaks(%q) = %d, want %d", s, got, mountains)
		}
	}
}

func TestStripsAreToldByTheirRuns(t *testing.T) {
	for _, s := range append(stripsOf(3, 5), stripsOf(1, maxSteps)...) {
		runs := impl.RunsOf(s)
		sum := 0
		for _, run := range runs {
			sum += run
		}
		if sum != len(s) || len(runs) != len(impl.CornersOf(s))+1 {
			t.Errorf("RunsOf(%q) = %d", s, runs)
		}
		checkFromRuns(t, s[:1], runs, s)
		// With the other first letter, the same runs tell the strip with all letters exchanged.
		swapped := strings.NewReplacer("d", "f", "f", "d").Replace(s)
		checkFromRuns(t, swapped[:1], runs, swapped)
	}
}

func TestCornersOfOtherTextsAreRejected(t *testing.T) {
	checkNoCorners(t, "")
	for n := 1; n <= maxSteps+1; n++ {
		checkNoCorners(t, strings.Repeat("d", n))
		checkNoCorners(t, strings.Repeat("f", n))
	}
	for _, s := range textsWithOtherBytes() {
		checkNoCorners(t, s)
	}
	full := strings.Repeat("fd", maxSteps)
	for _, s := range []string{"ddddddddd" + "f", "fff" + "ddddddddd", "d" + "fffffffff", full + "d", "f" + full, strings.Repeat("df", 100000), "DF", "fd\n", "f d", "é", "fdé"} {
		checkNoCorners(t, s)
	}
}

func TestFromRunsOfAllShortLists(t *testing.T) {
	lists := [][]int{nil}
	for i := 0; len(lists[i]) < 4; i++ {
		for run := -1; run <= maxSteps+1; run++ {
			lists = append(lists, append(slices.Clone(lists[i]), run))
		}
	}
	for _, runs := range lists {
		sums := [2]int{}
		parts := [2]string{}
		right := true
		for i, run := range runs {
			right = right && run >= 1 && run <= maxSteps
			sums[i%2] += run
			if right {
				parts[0] += strings.Repeat("df"[i%2:i%2+1], run)
				parts[1] += strings.Repeat("fd"[i%2:i%2+1], run)
			}
		}
		if !right || len(runs) < 2 || sums[0] > maxSteps || sums[1] > maxSteps {
			parts = [2]string{}
		}
		checkFromRuns(t, "d", runs, parts[0])
		checkFromRuns(t, "f", runs, parts[1])
	}
}

func TestFromRunsRejectsOtherFirstLetters(t *testing.T) {
	for i := range 256 {
		c := string([]byte{byte(i)})
		if c != "d" && c != "f" {
			checkFromRuns(t, c, []int{1, 1}, "")
			checkFromRuns(t, c, []int{2, 1, 3}, "")
		}
	}
	for _, first := range []string{"", "dd", "ff", "df", "fd", "dx", "xd", "d ", " f", "f\n", "d\x00", "D", "é", "\u0164", strings.Repeat("d", 100000)} {
		for _, runs := range [][]int{nil, {1}, {1, 1}, {2, 3, 1}} {
			checkFromRuns(t, first, runs, "")
		}
	}
}

func TestFromRunsRejectsOtherRuns(t *testing.T) {
	for _, first := range []string{"d", "f"} {
		checkFromRuns(t, first, nil, "")
		checkFromRuns(t, first, []int{}, "")
		for run := range maxSteps + 2 {
			checkFromRuns(t, first, []int{run}, "")
		}
		for _, run := range []int{math.MinInt, math.MinInt + 1, -1<<32 + 1, -255, -9, -1, 0, maxSteps + 1, 257, 1<<32 + 1, 1 << 62, math.MaxInt} {
			for _, runs := range [][]int{{run}, {run, 1}, {1, run}, {1, run, 1}, {1, 1, run}, {run, 1, 1}, {1, run, 1, 1}, {run, run}, {1, 1, 1, -run}, {1, 2, run, -run, 1}} {
				if slices.Max(runs) > maxSteps || slices.Min(runs) < 1 {
					checkFromRuns(t, first, runs, "")
				}
			}
		}
	}
}

func TestFromRunsAtTheGreatestFrame(t *testing.T) {
	d, f := strings.Repeat("d", maxSteps), strings.Repeat("f", maxSteps)
	checkFromRuns(t, "d", []int{maxSteps, maxSteps}, d+f)
	checkFromRuns(t, "f", []int{maxSteps, maxSteps}, f+d)
	checkFromRuns(t, "d", []int{4, maxSteps, 4}, "dddd"+f+"dddd")
	checkFromRuns(t, "f", []int{1, 3, 7, 5}, "fdddfffffffddddd")
	for _, first := range []string{"d", "f"} {
		for _, runs := range [][]int{{5, 1, 4}, {1, 5, 1, 4}, {maxSteps, 1, 1}, {1, maxSteps, 1, 1}, {4, maxSteps, 5}, {1, 1, maxSteps}, {1, 1, 1, maxSteps}, {maxSteps, maxSteps, 1}, {maxSteps, maxSteps, maxSteps, maxSteps}} {
			checkFromRuns(t, first, runs, "")
		}
	}
}

func TestFromRunsOfManyRuns(t *testing.T) {
	ones := slices.Repeat([]int{1}, 2*maxSteps+2)
	for n := 2; n <= 2*maxSteps; n++ {
		checkFromRuns(t, "d", ones[:n], strings.Repeat("df", maxSteps)[:n])
		checkFromRuns(t, "f", ones[:n], strings.Repeat("fd", maxSteps)[:n])
	}
	for _, first := range []string{"d", "f"} {
		checkFromRuns(t, first, ones[:2*maxSteps+1], "")
		checkFromRuns(t, first, ones, "")
		checkFromRuns(t, first, slices.Repeat([]int{1}, 100000), "")
		checkFromRuns(t, first, slices.Repeat([]int{maxSteps}, 100000), "")
		checkFromRuns(t, first, append([]int{1, 1}, make([]int, 100000)...), "")
	}
}

func TestCornersAndRunsShareNoMemory(t *testing.T) {
	runs := []int{2, 1, 1, 1, 77, 78}
	checkFromRuns(t, "f", runs[:4], "ffdfd")
	if !slices.Equal(runs, []int{2, 1, 1, 1, 77, 78}) {
		t.Errorf("FromRuns changed its runs or the memory behind them to %d", runs)
	}
	c, r := impl.CornersOf("ffdfd"), impl.RunsOf("ffdfd")
	for i := range c {
		c[i] = 99
	}
	for i := range r {
		r[i] = 99
	}
	checkCorners(t, "ffdfd")
}
