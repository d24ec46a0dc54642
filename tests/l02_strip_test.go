package tests

import (
	"math"
	"strings"
	"testing"

	"loop.example/g03305/impl"
)

const maxSteps = 8

// checkStrip expects a strip with these numbers of steps.
func checkStrip(t *testing.T, s string, down int, forward int) {
	t.Helper()
	if !impl.IsStrip(s) || impl.DownOf(s) != down || impl.ForwardOf(s) != forward {
		t.Errorf("%.40q: IsStrip %v, DownOf %d, ForwardOf %d, want true, %d, %d", s, impl.IsStrip(s), impl.DownOf(s), impl.ForwardOf(s), down, forward)
	}
}

// checkNoStrip expects that every function of the chapter rejects s.
func checkNoStrip(t *testing.T, s string) {
	t.Helper()
	if impl.IsStrip(s) || impl.DownOf(s) != 0 || impl.ForwardOf(s) != 0 {
		t.Errorf("%.40q: IsStrip %v, DownOf %d, ForwardOf %d, want false, 0, 0", s, impl.IsStrip(s), impl.DownOf(s), impl.ForwardOf(s))
	}
	for _, u := range []string{s, "df", "ddff", ""} {
		if impl.SameFrame(s, u) || impl.SameFrame(u, s) {
			t.Errorf("SameFrame accepts %.40q with %.40q", s, u)
		}
	}
	for _, k := range []int{math.MinInt, -1, 0, 1, len(s) - 1, len(s), len(s) + 1, math.MaxInt} {
		checkNoPosition(t, s, k)
	}
}

func checkNoPosition(t *testing.T, s string, k int) {
	t.Helper()
	if f, d, ok := impl.StripAt(s, k); f != 0 || d != 0 || ok {
		t.Errorf("StripAt(%.40q, %d) = %d, %d, %v, want 0, 0, false", s, k, f, d, ok)
	}
}

// allWords returns every string with the letters d and f that has a length up to n.
func allWords(n int) []string {
	words := []string{""}
	last := words
	for range n {
		var next []string
		for _, w := range last {
			next = append(next, w+"d", w+"f")
		}
		words = append(words, next...)
		last = next
	}
	return words
}

// stripsOf returns every string with these numbers of letters.
func stripsOf(down int, forward int) []string {
	if down == 0 || forward == 0 {
		return []string{strings.Repeat("d", down) + strings.Repeat("f", forward)}
	}
	var strips []string
	for _, s := range stripsOf(down-1, forward) {
		strips = append(strips, "d"+s)
	}
	for _, s := range stripsOf(down, forward-1) {
		strips = append(strips, "f"+s)
	}
	return strips
}

// someStrips returns the first one of the strips of a frame, and every n-th one after it.
func someStrips(down int, forward int, n int) []string {
	var some []string
	for i, s := range stripsOf(down, forward) {
		if i%n == 0 {
			some = append(some, s)
		}
	}
	return some
}

// checkWords has each word of up to n letters checked as a strip or as another word.
func checkWords(t *testing.T, n int, checkStrip func(t *testing.T, s string), checkOther func(t *testing.T, s string)) {
	t.Helper()
	for _, w := range allWords(n) {
		down, forward := strings.Count(w, "d"), strings.Count(w, "f")
		if down >= 1 && down <= maxSteps && forward >= 1 && forward <= maxSteps {
			checkStrip(t, w)
		} else {
			checkOther(t, w)
		}
	}
}

func TestStripLimit(t *testing.T) {
	if impl.MaxSteps != maxSteps {
		t.Error("MaxSteps differs from the document")
	}
}

func TestStripsHaveAllTheirStepsInSomeOrder(t *testing.T) {
	checkStrip(t, "df", 1, 1)
	checkStrip(t, "fd", 1, 1)
	checkStrip(t, "dfdff", 2, 3)
	checkWords(t, 10, func(t *testing.T, s string) {
		checkStrip(t, s, strings.Count(s, "d"), strings.Count(s, "f"))
	}, checkNoStrip)
}

func TestStripsAtTheGreatestFrame(t *testing.T) {
	d, f := strings.Repeat("d", maxSteps), strings.Repeat("f", maxSteps)
	mixed := strings.Repeat("df", maxSteps)
	checkStrip(t, d+"f", maxSteps, 1)
	checkStrip(t, "f"+d, maxSteps, 1)
	checkStrip(t, "d"+f, 1, maxSteps)
	checkStrip(t, f+"d", 1, maxSteps)
	for _, s := range []string{d + f, f + d, mixed, "f" + mixed[:2*maxSteps-1]} {
		checkStrip(t, s, maxSteps, maxSteps)
		checkNoStrip(t, s+"d")
		checkNoStrip(t, s+"f")
		checkNoStrip(t, "d"+s)
		checkNoStrip(t, "f"+s)
		checkNoStrip(t, s+"df")
		checkNoStrip(t, s+s)
	}
	checkNoStrip(t, d+"df")
	checkNoStrip(t, "f"+d+"d")
	checkNoStrip(t, "d"+f+"f")
	checkNoStrip(t, f+"fd")
	checkNoStrip(t, strings.Repeat("d", 256+1)+"f")
	checkNoStrip(t, strings.Repeat("df", 100000))
}

func TestStripsOfTheGreatestFrameAreAccepted(t *testing.T) {
	strips := stripsOf(maxSteps, maxSteps)
	if len(strips) != 12870 {
		t.Fatalf("the test makes %d strips", len(strips))
	}
	for _, s := range strips {
		checkStrip(t, s, maxSteps, maxSteps)
	}
}

func TestStripsWithOneKindOfLetterAreRejected(t *testing.T) {
	checkNoStrip(t, "")
	for n := 1; n <= maxSteps+1; n++ {
		checkNoStrip(t, strings.Repeat("d", n))
		checkNoStrip(t, strings.Repeat("f", n))
	}
}

func TestStripsWithOtherLettersAreRejected(t *testing.T) {
	for i := range 256 {
		c := string([]byte{byte(i)})
		if c == "d" || c == "f" {
			continue
		}
		for _, s := range []string{c, c + "df", "d" + c + "f", "df" + c, "d" + c, c + "f"} {
			checkNoStrip(t, s)
		}
	}
	for _, s := range []string{"DF", "dF", "Df", "ｄｆ", "dfé", "df\u0164", "\u0164df", "d\u0166f", "\u0166d", "df\U00010064", "df\ufffd", "df\xff\xfe", "d f", "df\n", "d\x00f"} {
		checkNoStrip(t, s)
	}
}

func TestFlatAndHighStrips(t *testing.T) {
	for down := -2; down <= maxSteps+2; down++ {
		for forward := -2; forward <= maxSteps+2; forward++ {
			flat, high := impl.FlatStrip(down, forward), impl.HighStrip(down, forward)
			if down < 1 || down > maxSteps || forward < 1 || forward > maxSteps {
				if flat != "" || high != "" {
					t.Errorf("FlatStrip and HighStrip of %d and %d are %q and %q", down, forward, flat, high)
				}
				continue
			}
			d, f := strings.Repeat("d", down), strings.Repeat("f", forward)
			if flat != d+f || high != f+d {
				t.Errorf("FlatStrip and HighStrip of %d and %d are %q and %q", down, forward, flat, high)
			}
			checkStrip(t, flat, down, forward)
			checkStrip(t, high, down, forward)
			if !impl.SameFrame(flat, high) {
				t.Errorf("%q and %q have different frames", flat, high)
			}
		}
	}
}

func TestFlatAndHighStripsOfGreatNumbers(t *testing.T) {
	// -255, 257, -1<<32 + 1 and 1<<32 + 1 would be in the range if they were narrowed to fewer bits.
	for _, n := range []int{math.MinInt, math.MinInt + 1, -1<<32 + 1, -255, -9, -1, 0, 9, 257, 1<<32 + 1, 1 << 62, math.MaxInt - 1, math.MaxInt} {
		for _, m := range []int{1, maxSteps, n, -n, math.MaxInt, math.MinInt} {
			for _, s := range []string{impl.FlatStrip(n, m), impl.FlatStrip(m, n), impl.HighStrip(n, m), impl.HighStrip(m, n)} {
				if s != "" {
					t.Errorf("a strip of %d and %d steps is %.40q", n, m, s)
				}
			}
		}
	}
}

func TestSameFrameComparesBothNumbers(t *testing.T) {
	words := allWords(5)
	for _, s := range words {
		for _, u := range words {
			d, f := strings.Count(s, "d"), strings.Count(s, "f")
			want := d >= 1 && f >= 1 && d == strings.Count(u, "d") && f == strings.Count(u, "f")
			if got := impl.SameFrame(s, u); got != want {
				t.Errorf("SameFrame(%q, %q) = %v", s, u, got)
			}
		}
	}
	flat, high := impl.FlatStrip(maxSteps, maxSteps), impl.HighStrip(maxSteps, maxSteps)
	if !impl.SameFrame(flat, high) || impl.SameFrame(flat, high+"d") || impl.SameFrame(flat+"f", high+"f") || impl.SameFrame("dfx", "dfx") || impl.SameFrame("", "") {
		t.Error("SameFrame at the greatest frame or of other texts is wrong")
	}
}

func TestStripAtCountsTheFirstSteps(t *testing.T) {
	strips := append(allWords(7), "dfdff", impl.FlatStrip(maxSteps, maxSteps), impl.HighStrip(maxSteps, maxSteps), strings.Repeat("fd", maxSteps))
	for _, s := range strips {
		if !strings.Contains(s, "d") || !strings.Contains(s, "f") {
			continue
		}
		for k := 0; k <= len(s); k++ {
			f, d, ok := impl.StripAt(s, k)
			if f != strings.Count(s[:k], "f") || d != strings.Count(s[:k], "d") || !ok {
				t.Errorf("StripAt(%q, %d) = %d, %d, %v", s, k, f, d, ok)
			}
		}
		for _, k := range []int{math.MinInt, -len(s), -1, len(s) + 1, 2 * len(s), math.MaxInt} {
			checkNoPosition(t, s, k)
		}
	}
}

func TestStripAtTheEndsHasNoneAndAllSteps(t *testing.T) {
	s := "dfdff"
	if f, d, ok := impl.StripAt(s, 0); f != 0 || d != 0 || !ok {
		t.Errorf("StripAt(%q, 0) = %d, %d, %v", s, f, d, ok)
	}
	if f, d, ok := impl.StripAt(s, 3); f != 1 || d != 2 || !ok {
		t.Errorf("StripAt(%q, 3) = %d, %d, %v", s, f, d, ok)
	}
	if f, d, ok := impl.StripAt(s, 5); f != 3 || d != 2 || !ok {
		t.Errorf("StripAt(%q, 5) = %d, %d, %v", s, f, d, ok)
	}
}
