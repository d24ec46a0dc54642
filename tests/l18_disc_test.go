package tests

import (
	"math/rand"
	"slices"
	"testing"

	"loop.example/g03305/impl"
)

const (
	maxSectors = 24
	maxPicture = 99
	maxTurn    = 1000
)

func discOf(now int, pictures ...int) impl.Disc {
	return impl.Disc{Sectors: len(pictures), Now: now, Pictures: pictures}
}

// differentPictures returns n pictures that are all different, the least and the greatest one among them.
func differentPictures(n int) []int {
	pictures := make([]int, n)
	for i := range n {
		pictures[i] = maxPicture * i / (n - 1)
	}
	return pictures
}

// fewPictures returns n pictures, many of which are equal.
func fewPictures(n int) []int {
	pictures := make([]int, n)
	for i := range n {
		pictures[i] = i * i % 5
	}
	return pictures
}

// allNows returns the discs with the same pictures that stand at each sector.
func allNows(pictures []int) []impl.Disc {
	var discs []impl.Disc
	for now := range pictures {
		discs = append(discs, discOf(now, pictures...))
	}
	return discs
}

// goodDiscs returns discs of every number of sectors that stand at each of them.
func goodDiscs() []impl.Disc {
	var discs []impl.Disc
	for n := 2; n <= maxSectors; n++ {
		discs = append(discs, allNows(differentPictures(n))...)
		discs = append(discs, allNows(fewPictures(n))...)
	}
	return discs
}

// shownOf returns what the windows of a disc show, each of which is a sector after the one before.
func shownOf(d impl.Disc) []int { return slices.Concat(d.Pictures[d.Now:], d.Pictures[:d.Now]) }

// turnedOnce returns what the windows show after a turn of one sector.
func turnedOnce(shown []int) []int { return append(slices.Clone(shown[1:]), shown[0]) }

// wrongDiscs returns discs that are not valid: with too few or too many sectors, at no sector, with pictures too few, too many or out of their range.
func wrongDiscs() []impl.Disc {
	discs := []impl.Disc{{}, {Sectors: 2}, {Sectors: 2, Pictures: []int{}}, {Pictures: []int{1, 2}}, discOf(0), discOf(0, 5), discOf(-1), discOf(1, 5)}
	discs = append(discs, discOf(0, slices.Repeat([]int{3}, 25)...), discOf(24, slices.Repeat([]int{3}, 25)...), discOf(0, fewPictures(280)...))
	for n := 2; n <= maxSectors; n++ {
		pictures := fewPictures(n)
		for _, sectors := range slices.Concat([]int{n - 1, n + 1, 0, 1, -1, -n, 25}, numbersOutside(2, maxSectors)) {
			discs = append(discs, impl.Disc{Sectors: sectors, Pictures: pictures}, impl.Disc{Sectors: sectors, Now: 1, Pictures: pictures})
		}
		for _, now := range numbersOutside(0, n-1) {
			discs = append(discs, discOf(now, pictures...))
		}
		for i := range n {
			for _, picture := range numbersOutside(0, maxPicture) {
				wrong := slices.Clone(pictures)
				wrong[i] = picture
				discs = append(discs, discOf(0, wrong...), discOf(i, wrong...))
			}
		}
	}
	return discs
}

func checkDisc(t *testing.T, d impl.Disc, want bool) {
	t.Helper()
	pictures, all := numbersWithSpare(d.Pictures)
	before := slices.Clone(all)
	if got := impl.DiscOk(impl.Disc{Sectors: d.Sectors, Now: d.Now, Pictures: pictures}); got != want {
		t.Errorf("DiscOk(%v) = %v", d, got)
	}
	if !slices.Equal(all, before) {
		t.Errorf("DiscOk(%v) changed its pictures to %v", d, all)
	}
}

// checkDiscTurn expects that a disc turned by a number stands at this sector, with its pictures in new memory.
func checkDiscTurn(t *testing.T, d impl.Disc, by int, now int) {
	t.Helper()
	pictures, all := numbersWithSpare(d.Pictures)
	before := slices.Clone(all)
	got := impl.TurnDisc(impl.Disc{Sectors: d.Sectors, Now: d.Now, Pictures: pictures}, by)
	if got.Sectors != d.Sectors || got.Now != now || !slices.Equal(got.Pictures, d.Pictures) {
		t.Errorf("TurnDisc(%v, %d) = %v, want it at %d", d, by, got, now)
	}
	if !slices.Equal(all, before) {
		t.Errorf("TurnDisc(%v, %d) changed its pictures to %v", d, by, all)
	}
	// If the result is written to, the given disc must not see it, nor what is behind its pictures.
	overwriteNumbers(got.Pictures)
	if !slices.Equal(all, before) {
		t.Errorf("TurnDisc(%v, %d) returns pictures that share memory with those", d, by)
	}
}

// overwriteNumbers writes to all memory of a list.
func overwriteNumbers(list []int) {
	all := list[:cap(list)]
	for i := range all {
		all[i] = -12345
	}
}

// checkAsked runs a function of a disc and expects this result, and that the pictures and what is behind them stay.
func checkAsked(t *testing.T, name string, d impl.Disc, ask func(d impl.Disc) int, want int) {
	t.Helper()
	pictures, all := numbersWithSpare(d.Pictures)
	before := slices.Clone(all)
	if got := ask(impl.Disc{Sectors: d.Sectors, Now: d.Now, Pictures: pictures}); got != want {
		t.Errorf("%s of %v is %d, want %d", name, d, got, want)
	}
	if !slices.Equal(all, before) {
		t.Errorf("%s of %v changed its pictures to %v", name, d, all)
	}
}

func checkShown(t *testing.T, d impl.Disc, window int, want int) {
	t.Helper()
	checkAsked(t, "ShownAt", d, func(d impl.Disc) int { return impl.ShownAt(d, window) }, want)
}

func checkTurns(t *testing.T, d impl.Disc, window int, picture int, want int) {
	t.Helper()
	checkAsked(t, "TurnsToShow", d, func(d impl.Disc) int { return impl.TurnsToShow(d, window, picture) }, want)
}

func checkPeriod(t *testing.T, d impl.Disc, want int) {
	t.Helper()
	checkAsked(t, "PeriodOf", d, impl.PeriodOf, want)
}

// checkMeet expects that two discs meet again after so many steps, both ways round.
func checkMeet(t *testing.T, d impl.Disc, e impl.Disc, want int) {
	t.Helper()
	checkAsked(t, "MeetAgain with another disc", d, func(d impl.Disc) int { return impl.MeetAgain(d, e) }, want)
	checkAsked(t, "MeetAgain with a first disc", d, func(d impl.Disc) int { return impl.MeetAgain(e, d) }, want)
}

func TestDiscsOfAllSizes(t *testing.T) {
	for sectors := -3; sectors <= 27; sectors++ {
		for now := -3; now <= 27; now++ {
			for n := range 28 {
				want := sectors >= 2 && sectors <= 24 && now >= 0 && now < sectors && n == sectors
				checkDisc(t, impl.Disc{Sectors: sectors, Now: now, Pictures: fewPictures(n)}, want)
			}
		}
	}
	checkDisc(t, impl.Disc{}, false)
	checkDisc(t, discOf(0, 0, 99), true)
	checkDisc(t, discOf(1, 99, 0), true)
	checkDisc(t, discOf(2, 99, 0), false)
	checkDisc(t, discOf(0, 7), false)
	checkDisc(t, discOf(23, slices.Repeat([]int{99}, 24)...), true)
	checkDisc(t, discOf(23, slices.Repeat([]int{99}, 25)...), false)
}

func TestPicturesOfDiscs(t *testing.T) {
	for n := 2; n <= maxSectors; n++ {
		for i := range n {
			for picture := -300; picture <= 400; picture++ {
				for _, pictures := range [][]int{fewPictures(n), differentPictures(n)} {
					pictures[i] = picture
					checkDisc(t, discOf(n-1-i, pictures...), picture >= 0 && picture <= 99)
				}
			}
		}
	}
	// The pictures of a list that is too long or too short are wrong by their number alone.
	for _, good := range goodDiscs() {
		checkDisc(t, good, true)
		checkDisc(t, impl.Disc{Sectors: good.Sectors, Now: good.Now, Pictures: good.Pictures[1:]}, false)
		checkDisc(t, impl.Disc{Sectors: good.Sectors, Now: good.Now, Pictures: append(slices.Clone(good.Pictures), 0)}, false)
		checkDisc(t, impl.Disc{Sectors: good.Sectors, Now: good.Now}, false)
	}
}

func TestDiscsThatAreNotValid(t *testing.T) {
	good := discOf(1, 4, 5, 6)
	for _, d := range wrongDiscs() {
		checkDisc(t, d, false)
		for _, by := range []int{0, 1, -1, 7, 1000, -1000, 1001} {
			checkDiscTurn(t, d, by, d.Now)
		}
		for _, window := range []int{0, 1, -1, d.Sectors - 1, d.Sectors} {
			checkShown(t, d, window, -1)
			for _, picture := range []int{0, 1, -1, 100} {
				checkTurns(t, d, window, picture, -1)
			}
		}
		checkPeriod(t, d, -1)
		checkMeet(t, d, good, -1)
		checkMeet(t, d, d, -1)
		checkMeet(t, d, impl.Disc{}, -1)
	}
}

func TestTurnDisc(t *testing.T) {
	for _, d := range goodDiscs() {
		forward, back := d.Now, d.Now
		for by := range maxTurn + 1 {
			checkDiscTurn(t, d, by, forward)
			checkDiscTurn(t, d, -by, back)
			forward++
			if forward == d.Sectors {
				forward = 0
			}
			back--
			if back < 0 {
				back = d.Sectors - 1
			}
		}
	}
}

func TestTurnDiscByHand(t *testing.T) {
	d := discOf(3, 7, 8, 7, 8)
	checkDiscTurn(t, d, 0, 3)
	checkDiscTurn(t, d, 1, 0)
	checkDiscTurn(t, d, -1, 2)
	checkDiscTurn(t, d, -3, 0)
	checkDiscTurn(t, d, -4, 3)
	checkDiscTurn(t, d, -5, 2)
	checkDiscTurn(t, d, 12, 3)
	checkDiscTurn(t, d, -12, 3)
	checkDiscTurn(t, d, -13, 2)
	checkDiscTurn(t, d, 1000, 3)
	checkDiscTurn(t, d, -1000, 3)
	checkDiscTurn(t, discOf(0, 1, 2, 3), 1000, 1)
	checkDiscTurn(t, discOf(0, 1, 2, 3), -1000, 2)
	checkDiscTurn(t, discOf(0, 0, 0), -1, 1)
	checkDiscTurn(t, discOf(1, 0, 0), -1, 0)
	checkDiscTurn(t, discOf(0, fewPictures(24)...), -1, 23)
	checkDiscTurn(t, discOf(23, fewPictures(24)...), 1, 0)
	checkDiscTurn(t, discOf(0, fewPictures(24)...), -1000, 8)
	checkDiscTurn(t, discOf(0, fewPictures(24)...), 1000, 16)
	checkDiscTurn(t, discOf(22, fewPictures(23)...), 1000, 10)
}

func TestTurnDiscTooFar(t *testing.T) {
	for _, d := range goodDiscs() {
		for _, by := range numbersOutside(-maxTurn, maxTurn) {
			checkDiscTurn(t, d, by, d.Now)
		}
		checkDiscTurn(t, d, 1001, d.Now)
		checkDiscTurn(t, d, -1001, d.Now)
	}
}

func TestTurnDiscAndBack(t *testing.T) {
	for _, d := range goodDiscs() {
		for _, by := range []int{0, 1, -1, d.Sectors - 1, d.Sectors, d.Sectors + 1, -d.Sectors, 1 - d.Sectors, -d.Sectors - 1, 5*d.Sectors + 2, -7*d.Sectors - 3, 999, 1000, -1000} {
			turned := impl.TurnDisc(d, by)
			if !impl.DiscOk(turned) {
				t.Errorf("TurnDisc(%v, %d) = %v is not valid", d, by, turned)
			}
			checkDiscTurn(t, turned, -by, d.Now)
			// A turn is as many turns of one sector.
			shown := shownOf(d)
			for range (by%d.Sectors + d.Sectors) % d.Sectors {
				shown = turnedOnce(shown)
			}
			if got := shownOf(turned); !slices.Equal(got, shown) {
				t.Errorf("TurnDisc(%v, %d) shows %v, want %v", d, by, got, shown)
			}
		}
	}
}

func TestShownAt(t *testing.T) {
	for _, d := range goodDiscs() {
		for window, picture := range shownOf(d) {
			checkShown(t, d, window, picture)
			// What a window shows is what the one before it shows after a turn of one sector.
			if window > 0 {
				checkShown(t, impl.TurnDisc(d, 1), window-1, picture)
				checkShown(t, impl.TurnDisc(d, window), 0, picture)
			}
		}
		for _, window := range append(numbersOutside(0, d.Sectors-1), d.Sectors+1, -d.Sectors) {
			checkShown(t, d, window, -1)
		}
	}
	d := discOf(2, 10, 11, 12, 13, 14)
	for window, want := range []int{12, 13, 14, 10, 11, -1, -1} {
		checkShown(t, d, window, want)
	}
	checkShown(t, d, -1, -1)
	checkShown(t, discOf(1, 0, 99), 0, 99)
	checkShown(t, discOf(1, 0, 99), 1, 0)
}

func TestTurnsToShow(t *testing.T) {
	for _, d := range goodDiscs() {
		shown := shownOf(d)
		for window := range d.Sectors {
			for picture := -2; picture <= 101; picture++ {
				checkTurns(t, d, window, picture, slices.Index(shown, picture))
			}
			for _, picture := range numbersOutside(0, maxPicture) {
				checkTurns(t, d, window, picture, -1)
			}
			shown = turnedOnce(shown)
		}
		for _, window := range append(numbersOutside(0, d.Sectors-1), d.Sectors+1, -d.Sectors) {
			for _, picture := range []int{d.Pictures[0], d.Pictures[d.Now], 0, -1} {
				checkTurns(t, d, window, picture, -1)
			}
		}
	}
}

func TestTurnsToShowByHand(t *testing.T) {
	d := discOf(2, 5, 6, 7, 5, 8)
	checkTurns(t, d, 0, 7, 0)
	checkTurns(t, d, 0, 5, 1)
	checkTurns(t, d, 0, 8, 2)
	checkTurns(t, d, 0, 6, 4)
	checkTurns(t, d, 1, 5, 0)
	checkTurns(t, d, 1, 7, 4)
	checkTurns(t, d, 2, 5, 1)
	checkTurns(t, d, 3, 5, 0)
	checkTurns(t, d, 4, 5, 2)
	checkTurns(t, d, 4, 6, 0)
	checkTurns(t, d, 4, 8, 3)
	checkTurns(t, d, 0, 9, -1)
	checkTurns(t, d, 0, -1, -1)
	checkTurns(t, d, 5, 5, -1)
	checkTurns(t, discOf(1, 0, 99), 0, 0, 1)
	checkTurns(t, discOf(1, 0, 99), 0, 99, 0)
}

// TestTurnsShowThePicture turns a disc by each number until the window shows the picture.
func TestTurnsShowThePicture(t *testing.T) {
	for _, d := range goodDiscs() {
		for window := range d.Sectors {
			for _, picture := range d.Pictures {
				turns := impl.TurnsToShow(d, window, picture)
				if turns < 0 || turns >= d.Sectors {
					t.Fatalf("TurnsToShow(%v, %d, %d) = %d", d, window, picture, turns)
				}
				for by := range turns + 1 {
					if shown := impl.ShownAt(impl.TurnDisc(d, by), window); (shown == picture) != (by == turns) {
						t.Errorf("after %d of %d turns, window %d of %v shows %d", by, turns, window, d, shown)
					}
				}
			}
		}
	}
}

// wantPeriod turns a disc by one sector until all windows show the same again.
func wantPeriod(pictures []int) int {
	period := 1
	for shown := turnedOnce(pictures); !slices.Equal(shown, pictures); shown = turnedOnce(shown) {
		period++
	}
	return period
}

// withoutPeriodCount returns of how many rows of n out of so many pictures no part repeats.
func withoutPeriodCount(n int, pictures int) int {
	count := 1
	for range n {
		count *= pictures
	}
	for part := 1; part < n; part++ {
		if n%part == 0 {
			count -= withoutPeriodCount(part, pictures)
		}
	}
	return count
}

func TestPeriodsOfAllRows(t *testing.T) {
	for kinds, longest := range []int{2: 12, 3: 7, 4: 6} {
		for n := 2; n <= longest; n++ {
			counts := map[int]int{}
			pictures := make([]int, n)
			for {
				want := wantPeriod(pictures)
				counts[want]++
				checkPeriod(t, discOf(want%n, pictures...), want)
				if !nextRow(pictures, kinds) {
					break
				}
			}
			for period, count := range counts {
				if n%period != 0 || count != withoutPeriodCount(period, kinds) {
					t.Errorf("%d rows of %d out of %d pictures have the period %d", count, n, kinds, period)
				}
			}
		}
	}
}

// nextRow changes a row to the next one out of so many pictures and reports whether there is one.
func nextRow(pictures []int, kinds int) bool {
	for i := range pictures {
		pictures[i]++
		if pictures[i] < kinds {
			return true
		}
		pictures[i] = 0
	}
	return false
}

// TestPeriodsOfRepeatedRows repeats parts without a period of their own, and then changes each picture to one that is nowhere else.
func TestPeriodsOfRepeatedRows(t *testing.T) {
	for n := 2; n <= maxSectors; n++ {
		for part := 1; part <= n; part++ {
			if n%part != 0 {
				continue
			}
			row := slices.Repeat(append([]int{99}, make([]int, part-1)...), n/part)
			for _, d := range allNows(row) {
				checkPeriod(t, d, part)
				checkPeriod(t, discOf(d.Now, slices.Repeat([]int{99}, n)...), 1)
			}
			for i := range n {
				changed := slices.Clone(row)
				changed[i] = 50
				checkPeriod(t, discOf(i, changed...), n)
				checkPeriod(t, discOf(0, changed...), n)
			}
		}
	}
}

func TestPeriodsOfRowsThatAlmostRepeat(t *testing.T) {
	for n := 2; n <= maxSectors; n++ {
		checkPeriod(t, discOf(n-1, differentPictures(n)...), n)
		// A row that repeats from its first picture to its last one, but not around the disc.
		for part := 1; part < n; part++ {
			row := make([]int, n)
			for i := range n {
				row[i] = i % part
			}
			want := n
			if n%part == 0 {
				want = part
			}
			for _, d := range allNows(row) {
				checkPeriod(t, d, want)
			}
		}
		// Of a prime number of sectors, only a row of one picture repeats before a whole turn.
		if slices.Contains([]int{2, 3, 5, 7, 11, 13, 17, 19, 23}, n) {
			for i := range n - 1 {
				row := append(slices.Repeat([]int{4}, i+1), slices.Repeat([]int{5}, n-i-1)...)
				checkPeriod(t, discOf(i, row...), n)
			}
		}
	}
	checkPeriod(t, discOf(0, 1, 2, 3, 1, 2), 5)
	checkPeriod(t, discOf(3, 1, 2, 1, 2, 1, 1), 6)
	checkPeriod(t, discOf(3, 1, 2, 2, 1, 2, 2), 3)
	checkPeriod(t, discOf(3, 1, 2, 1, 1, 2, 1, 1, 2, 1), 3)
	checkPeriod(t, discOf(5, 0, 0, 99, 99, 0, 0, 99, 99), 4)
	checkPeriod(t, discOf(1, 7, 7), 1)
	checkPeriod(t, discOf(1, 7, 8), 2)
}

// TestDiscsShowTheSameAfterTheirPeriod tests the promise by turning discs, also random ones of repeated parts.
func TestDiscsShowTheSameAfterTheirPeriod(t *testing.T) {
	random := rand.New(rand.NewSource(18))
	discs := goodDiscs()
	for n := 2; n <= maxSectors; n++ {
		for part := 1; part <= n; part++ {
			if n%part != 0 {
				continue
			}
			for range 5 {
				row := make([]int, part)
				for i := range row {
					row[i] = random.Intn(3) * 49
				}
				discs = append(discs, discOf(random.Intn(n), slices.Repeat(row, n/part)...))
			}
		}
	}
	for _, d := range discs {
		period := impl.PeriodOf(d)
		if period < 1 || d.Sectors%period != 0 {
			t.Fatalf("PeriodOf(%v) = %d", d, period)
		}
		for by := 1; by <= 2*period; by++ {
			for _, turned := range []impl.Disc{impl.TurnDisc(d, by), impl.TurnDisc(d, -by)} {
				if same := showTheSame(d, turned); same != (by%period == 0) {
					t.Errorf("after %d turns with the period %d, %v shows the same: %v", by, period, d, same)
				}
				checkPeriod(t, turned, period)
			}
		}
	}
}

// showTheSame reports whether each window of two discs shows the same.
func showTheSame(d impl.Disc, e impl.Disc) bool {
	for window := range d.Sectors {
		if impl.ShownAt(d, window) != impl.ShownAt(e, window) {
			return false
		}
	}
	return true
}

// TestMeetAgain turns two discs of every size by steps of 1 until both stand as before.
func TestMeetAgain(t *testing.T) {
	for n := 2; n <= maxSectors; n++ {
		for m := 2; m <= maxSectors; m++ {
			d, e := discOf(n-1, fewPictures(n)...), discOf(m/2, differentPictures(m)...)
			want, nowOfD, nowOfE := 0, d, e
			for want == 0 || nowOfD.Now != d.Now || nowOfE.Now != e.Now {
				nowOfD, nowOfE = impl.TurnDisc(nowOfD, 1), impl.TurnDisc(nowOfE, 1)
				want++
				if want > n*m {
					t.Fatalf("discs of %d and %d sectors never meet", n, m)
				}
			}
			checkMeet(t, d, e, want)
			checkMeet(t, discOf(0, fewPictures(n)...), discOf(m-1, slices.Repeat([]int{7}, m)...), want)
		}
	}
}

func TestMeetAgainByHand(t *testing.T) {
	disc := func(n int) impl.Disc { return discOf(n-1, fewPictures(n)...) }
	for _, row := range [][3]int{{2, 2, 2}, {24, 24, 24}, {23, 23, 23}, {2, 24, 24}, {23, 24, 552}, {16, 24, 48}, {6, 24, 24}, {5, 20, 20}, {4, 6, 12}, {9, 10, 90}, {22, 23, 506}, {2, 3, 6}, {18, 24, 72}, {15, 21, 105}, {2, 23, 46}} {
		checkMeet(t, disc(row[0]), disc(row[1]), row[2])
	}
}

func TestTurnsOfAnInvalidDiscAreApart(t *testing.T) {
	d := impl.Disc{Sectors: 3, Now: 9, Pictures: []int{1, -2, 300, 4}}
	got := impl.TurnDisc(d, 1)
	checkApart(t, d.Pictures, got.Pictures)
	got.Pictures[0] = 55
	if d.Pictures[0] != 1 || d.Now != 9 {
		t.Errorf("a change of the result changed the disc to %v", d)
	}
	for _, empty := range []impl.Disc{{}, {Sectors: 2, Pictures: []int{}}, {Now: -3}} {
		checkDiscTurn(t, empty, 5, empty.Now)
		checkDiscTurn(t, empty, 0, empty.Now)
	}
}
