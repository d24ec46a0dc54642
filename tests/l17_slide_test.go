package tests

import (
	"fmt"
	"math/rand"
	"slices"
	"strings"
	"testing"

	"loop.example/g03305/impl"
)

const (
	maxSliders = 8
	maxLinks   = 12
)

func sliderOf(low int, high int, now int) impl.Slider {
	return impl.Slider{Low: low, High: high, Now: now}
}

// linksOf reads links like "0+1 1-2": from slider 0 to slider 1 with the factor 1, and from 1 to 2 with the factor -1.
func linksOf(text string) []impl.Link {
	var links []impl.Link
	for _, field := range strings.Fields(text) {
		l := impl.Link{From: int(field[0] - '0'), To: int(field[2] - '0'), Factor: 1}
		if field[1] == '-' {
			l.Factor = -1
		}
		links = append(links, l)
	}
	return links
}

// wideSliders returns sliders in the middle of the longest slots.
func wideSliders(n int) []impl.Slider { return slices.Repeat([]impl.Slider{sliderOf(-100, 100, 0)}, n) }

// stillSliders returns n sliders in slots of one place.
func stillSliders(n int) []impl.Slider {
	sliders := make([]impl.Slider, n)
	for i := range n {
		sliders[i] = sliderOf(7*i-20, 7*i-20, 7*i-20)
	}
	return sliders
}

// isGoodSlider reports whether a slider is between both ends of its slot, and these are in their range.
func isGoodSlider(s impl.Slider) bool {
	return slices.IsSorted([]int{-100, s.Low, s.Now, s.High, 100})
}

// moveBySteps moves a slider one place at a time and returns how far it came.
func moveBySteps(s *impl.Slider, by int) int {
	start := s.Now
	for ; by > 0 && s.Now < s.High; by-- {
		s.Now++
	}
	for ; by < 0 && s.Now > s.Low; by++ {
		s.Now--
	}
	return s.Now - start
}

// wantPulled works all rounds one by one.
func wantPulled(list []impl.Slider, links []impl.Link, k int, by int) []impl.Slider {
	sliders := slices.Clone(list)
	moves := map[int]int{k: moveBySteps(&sliders[k], by)}
	for len(moves) > 0 {
		next := map[int]int{}
		for _, l := range links {
			if way, ok := moves[l.From]; ok {
				next[l.To] += moveBySteps(&sliders[l.To], l.Factor*way)
			}
		}
		for to, way := range next {
			if way == 0 {
				delete(next, to)
			}
		}
		moves = next
	}
	return sliders
}

// isReached reports whether some way of links leads from slider k to another one.
func isReached(links []impl.Link, k int, other int) bool {
	reached := map[int]bool{k: true}
	for range maxSliders {
		for _, l := range links {
			reached[l.To] = reached[l.To] || reached[l.From]
		}
	}
	return reached[other]
}

// factorsOf returns the sum of the products of all factors over all ways from one slider to another.
func factorsOf(links []impl.Link, from int, to int) int {
	if from == to {
		return 1
	}
	sum := 0
	for _, l := range links {
		if l.From == from {
			sum += l.Factor * factorsOf(links, l.To, to)
		}
	}
	return sum
}

// hasWay reports whether some links of a list can be followed n times from a slider on.
func hasWay(links []impl.Link, from int, n int) bool {
	return n == 0 || slices.ContainsFunc(links, func(l impl.Link) bool { return l.From == from && hasWay(links, l.To, n-1) })
}

// wantLinks reports whether links are allowed between n sliders; in a circle, links can be followed without an end.
func wantLinks(n int, links []impl.Link) bool {
	if n < 1 || n > maxSliders || len(links) > maxLinks {
		return false
	}
	for _, l := range links {
		if min(l.From, l.To) < 0 || max(l.From, l.To) >= n || l.From == l.To || l.Factor*l.Factor != 1 {
			return false
		}
	}
	for from := range n {
		if hasWay(links, from, n) {
			return false
		}
	}
	return true
}

// acyclicCount returns in how many ways n sliders can be linked without a circle, at most once from one to another: those to which no link leads are counted in and out.
func acyclicCount(n int) int {
	if n == 0 {
		return 1
	}
	sum, sign := 0, 1
	for k := 1; k <= n; k++ {
		sum += sign * chooseOf(n, k) * (1 << (k * (n - k))) * acyclicCount(n-k)
		sign = -sign
	}
	return sum
}

// pairLinks returns a link from each slider to each other one.
func pairLinks(n int) []impl.Link {
	var links []impl.Link
	for from := range n {
		for to := range n {
			if from != to {
				links = append(links, impl.Link{From: from, To: to, Factor: 1 - 2*((from+to)%2)})
			}
		}
	}
	return links
}

// bothLinks returns each link between n sliders with both factors.
func bothLinks(n int) []impl.Link {
	var links []impl.Link
	for _, l := range pairLinks(n) {
		links = append(links, impl.Link{From: l.From, To: l.To, Factor: 1}, impl.Link{From: l.From, To: l.To, Factor: -1})
	}
	return links
}

func checkSlider(t *testing.T, s impl.Slider, want bool) {
	t.Helper()
	if got := impl.SliderOk(s); got != want {
		t.Errorf("SliderOk(%v) = %v", s, got)
	}
}

func checkPull(t *testing.T, s impl.Slider, by int, want impl.Slider) {
	t.Helper()
	if got := impl.PullSlider(s, by); got != want {
		t.Errorf("PullSlider(%v, %d) = %v, want %v", s, by, got, want)
	}
}

func checkLinks(t *testing.T, n int, links []impl.Link, want bool) {
	t.Helper()
	if got := impl.LinksOk(n, links); got != want {
		t.Errorf("LinksOk(%d, %v) = %v", n, links, got)
	}
}

func checkSpent(t *testing.T, list []impl.Slider, want bool) {
	t.Helper()
	before := slices.Clone(list)
	if got := impl.IsSpent(list); got != want {
		t.Errorf("IsSpent(%v) = %v", list, got)
	}
	if !slices.Equal(list, before) {
		t.Errorf("IsSpent changed %v to %v", before, list)
	}
}

// checkPullAll expects these sliders in memory of their own, and that neither the list nor the links nor what is behind them are changed.
func checkPullAll(t *testing.T, list []impl.Slider, links []impl.Link, k int, by int, want []impl.Slider, ok bool) {
	t.Helper()
	allSliders := slices.Concat(list, []impl.Slider{sliderOf(-1, 1, 0), sliderOf(5, 4, 3)})
	allLinks := slices.Concat(links, linksOf("0+1 1+0"))
	slidersBefore, linksBefore := slices.Clone(allSliders), slices.Clone(allLinks)
	got, pulled := impl.PullAll(allSliders[:len(list)], allLinks[:len(links)], k, by)
	if pulled != ok || !slices.Equal(got, want) {
		t.Errorf("PullAll(%v, %v, %d, %d) = %v, %v, want %v, %v", list, links, k, by, got, pulled, want, ok)
	}
	if !slices.Equal(allSliders, slidersBefore) || !slices.Equal(allLinks, linksBefore) {
		t.Errorf("PullAll(%v, %v, %d, %d) changed its arguments", list, links, k, by)
	}
	checkApart(t, allSliders, got)
}

// checkPromisedPull expects that each slider is in the same slot as before, and that one to which no link leads from slider k is where it was.
func checkPromisedPull(t *testing.T, list []impl.Slider, links []impl.Link, k int, by int) {
	t.Helper()
	got, ok := impl.PullAll(list, links, k, by)
	if !ok || len(got) != len(list) {
		t.Fatalf("PullAll(%v, %v, %d, %d) = %v, %v", list, links, k, by, got, ok)
	}
	for i, s := range got {
		if !isGoodSlider(s) || s.Low != list[i].Low || s.High != list[i].High {
			t.Errorf("PullAll(%v, %v, %d, %d) moves slider %d out of its slot: %v", list, links, k, by, i, s)
		}
		if s != list[i] && (by == 0 || !isReached(links, k, i)) {
			t.Errorf("PullAll(%v, %v, %d, %d) moves slider %d to %v", list, links, k, by, i, s)
		}
	}
}

// checkNows expects that PullAll leaves the sliders at these places of their slots.
func checkNows(t *testing.T, list []impl.Slider, links string, k int, by int, nows ...int) {
	t.Helper()
	want := slices.Clone(list)
	for i, now := range nows {
		want[i].Now = now
	}
	checkPullAll(t, list, linksOf(links), k, by, want, true)
	checkPromisedPull(t, list, linksOf(links), k, by)
}

// checkPulled compares a pull with all rounds worked one by one.
func checkPulled(t *testing.T, list []impl.Slider, links []impl.Link, k int, by int) {
	t.Helper()
	checkPullAll(t, list, links, k, by, wantPulled(list, links, k, by), true)
	checkPromisedPull(t, list, links, k, by)
}

// checkNoPull expects that nothing is pulled.
func checkNoPull(t *testing.T, list []impl.Slider, links []impl.Link, k int, by int) {
	t.Helper()
	checkPullAll(t, list, links, k, by, list, false)
}

// checkNoLinks expects that links are rejected between n sliders, whichever slider is pulled.
func checkNoLinks(t *testing.T, n int, links []impl.Link) {
	t.Helper()
	checkLinks(t, n, links, false)
	for k := range min(max(n, 0), maxSliders+1) {
		for _, by := range []int{0, 3, -100} {
			checkNoPull(t, wideSliders(n), links, k, by)
		}
	}
}

func TestSlidersOfAllPlaces(t *testing.T) {
	for low := -102; low <= 102; low++ {
		for high := -102; high <= 102; high++ {
			for now := -102; now <= 102; now++ {
				want := low >= -100 && high <= 100 && now >= low && now <= high
				if got := impl.SliderOk(sliderOf(low, high, now)); got != want {
					t.Fatalf("SliderOk(%v) = %v", sliderOf(low, high, now), got)
				}
			}
		}
	}
	checkSlider(t, impl.Slider{}, true)
	checkSlider(t, sliderOf(-100, -100, -100), true)
	checkSlider(t, sliderOf(100, 100, 100), true)
	checkSlider(t, sliderOf(-100, 100, 0), true)
}

// wrongSliders returns sliders that are not valid: too low, too high, with exchanged ends and outside of their slots.
func wrongSliders() []impl.Slider {
	list := []impl.Slider{
		sliderOf(-101, 100, 0), sliderOf(-101, -100, -100), sliderOf(-101, -101, -101), sliderOf(-100, 101, 0), sliderOf(100, 101, 100), sliderOf(101, 101, 101),
		sliderOf(1, 0, 0), sliderOf(1, 0, 1), sliderOf(5, -5, 0), sliderOf(100, -100, 0), sliderOf(1, 0, 2), sliderOf(1, 0, -1),
		sliderOf(0, 0, 1), sliderOf(0, 0, -1), sliderOf(-3, 4, 5), sliderOf(-3, 4, -4), sliderOf(-100, 100, 101), sliderOf(-100, 100, -101),
	}
	for _, n := range greatNumbers {
		list = append(list, sliderOf(n, 5, 0), sliderOf(0, n, 0), sliderOf(-5, 5, n), sliderOf(n, n, n), sliderOf(n, 0, n), sliderOf(0, n, n), sliderOf(n, -n, 0), sliderOf(-n, n, 0))
	}
	return slices.DeleteFunc(list, isGoodSlider)
}

func TestSlidersThatAreNotValid(t *testing.T) {
	for _, s := range wrongSliders() {
		checkSlider(t, s, false)
		for _, by := range slices.Concat([]int{0, 1, -1, 5, -5, 100, -100, 1000, -1000}, numbersOutside(-1000, 1000)) {
			checkPull(t, s, by, s)
		}
	}
	// A great number is allowed nowhere, with which others ever it comes.
	for _, n := range greatNumbers {
		for _, other := range []int{-101, -100, 0, 100, 101} {
			checkSlider(t, sliderOf(n, other, other), false)
			checkSlider(t, sliderOf(other, n, other), false)
			checkSlider(t, sliderOf(other, other, n), false)
			checkSlider(t, sliderOf(n, n, other), false)
		}
	}
}

// someSlots returns sliders at Low, at High and between, in slots of all kinds.
func someSlots() []impl.Slider {
	var list []impl.Slider
	for _, low := range []int{-100, -99, -57, -3, -1, 0, 1, 20, 99, 100} {
		for _, high := range []int{-100, -98, -40, -1, 0, 1, 2, 33, 99, 100} {
			for _, now := range []int{low, low + 1, (low + high) / 2, high - 1, high} {
				list = append(list, sliderOf(low, high, now))
			}
		}
	}
	return slices.DeleteFunc(list, func(s impl.Slider) bool { return !isGoodSlider(s) })
}

func TestPullSlider(t *testing.T) {
	for _, s := range someSlots() {
		checkSlider(t, s, true)
		for by := -1000; by <= 1000; by++ {
			want := s
			moveBySteps(&want, by)
			checkPull(t, s, by, want)
		}
		checkPull(t, s, 0, s)
		checkPull(t, s, 1000, sliderOf(s.Low, s.High, s.High))
		checkPull(t, s, -1000, sliderOf(s.Low, s.High, s.Low))
		for _, by := range numbersOutside(-1000, 1000) {
			checkPull(t, s, by, s)
		}
		checkPull(t, s, 1001, s)
		checkPull(t, s, -1001, s)
	}
	checkPull(t, sliderOf(-2, 5, 1), 3, sliderOf(-2, 5, 4))
	checkPull(t, sliderOf(-2, 5, 1), 4, sliderOf(-2, 5, 5))
	checkPull(t, sliderOf(-2, 5, 1), 5, sliderOf(-2, 5, 5))
	checkPull(t, sliderOf(-2, 5, 1), -2, sliderOf(-2, 5, -1))
	checkPull(t, sliderOf(-2, 5, 1), -3, sliderOf(-2, 5, -2))
	checkPull(t, sliderOf(-2, 5, 1), -4, sliderOf(-2, 5, -2))
	checkPull(t, sliderOf(-100, 100, -100), 200, sliderOf(-100, 100, 100))
	checkPull(t, impl.Slider{}, 7, impl.Slider{})
}

func TestAllLinksBetweenFewSliders(t *testing.T) {
	for n := 1; n <= 4; n++ {
		pairs, accepted := pairLinks(n), 0
		for set := range 1 << len(pairs) {
			var links []impl.Link
			for i, l := range pairs {
				if set>>i&1 == 1 {
					links = append(links, l)
				}
			}
			want := wantLinks(n, links)
			checkLinks(t, n, links, want)
			slices.Reverse(links)
			checkLinks(t, n, links, want)
			if want {
				accepted++
			}
		}
		if accepted != acyclicCount(n) {
			t.Errorf("%d sets of links between %d sliders are allowed, want %d", accepted, n, acyclicCount(n))
		}
	}
	for _, links := range listsOf(bothLinks(3), 4) {
		checkLinks(t, 3, links, wantLinks(3, links))
	}
	for _, links := range listsOf(pairLinks(4), 4) {
		checkLinks(t, 4, links, wantLinks(4, links))
	}
}

func TestAllLinksBetweenFiveSliders(t *testing.T) {
	pairs, accepted := pairLinks(5), 0
	links := make([]impl.Link, 0, len(pairs))
	for set := range 1 << len(pairs) {
		links = links[:0]
		for i, l := range pairs {
			if set>>i&1 == 1 {
				links = append(links, l)
			}
		}
		if impl.LinksOk(5, links) {
			accepted++
		}
	}
	if accepted != acyclicCount(5) {
		t.Errorf("%d sets of links between 5 sliders are allowed, want %d", accepted, acyclicCount(5))
	}
}

func TestLinksAndTheNumberOfSliders(t *testing.T) {
	for n := 1; n <= maxSliders; n++ {
		checkLinks(t, n, nil, true)
		checkLinks(t, n, []impl.Link{}, true)
		// A link from and to each slider there is, and one and two more.
		for other := range n + 2 {
			for _, l := range []impl.Link{{From: 0, To: other, Factor: 1}, {From: other, To: 0, Factor: -1}} {
				if other > 0 && other < n {
					checkLinks(t, n, []impl.Link{l}, true)
				} else {
					checkNoLinks(t, n, []impl.Link{l})
				}
			}
		}
		// Slider n - 1 is the last one.
		if n > 1 {
			checkLinks(t, n, []impl.Link{{From: n - 1, To: n - 2, Factor: 1}}, true)
			checkLinks(t, n-1, []impl.Link{{From: n - 1, To: n - 2, Factor: 1}}, false)
			checkLinks(t, n-1, []impl.Link{{From: n - 2, To: n - 1, Factor: 1}}, false)
		}
	}
	for _, n := range numbersOutside(1, maxSliders) {
		for _, links := range [][]impl.Link{nil, {}, linksOf("0+1"), linksOf("0+1 1+0"), linksOf("0+0"), linksOf("7+8")} {
			checkLinks(t, n, links, false)
		}
	}
	checkLinks(t, 0, nil, false)
	checkLinks(t, 9, nil, false)
	checkLinks(t, -1, nil, false)
}

func TestLinksThatAreNotValid(t *testing.T) {
	beside := [][]impl.Link{nil, linksOf("0+1"), linksOf("1-2 0+1"), linksOf("0-2 0-2 1+2")}
	var wrong []impl.Link
	for slider := range 4 {
		wrong = append(wrong, impl.Link{From: slider, To: slider, Factor: 1}, impl.Link{From: slider, To: slider, Factor: -1})
		for _, n := range append(slices.Clone(greatNumbers), -100, -8, -2, -1, 4, 5, 8, 9, 100) {
			wrong = append(wrong, impl.Link{From: n, To: slider, Factor: 1}, impl.Link{From: slider, To: n, Factor: -1}, impl.Link{From: n, To: n, Factor: 1})
		}
	}
	for _, factor := range append(slices.Clone(greatNumbers), -100, -3, -2, 0, 2, 3, 100) {
		wrong = append(wrong, impl.Link{From: 0, To: 3, Factor: factor}, impl.Link{From: 2, To: 3, Factor: factor})
	}
	for _, l := range wrong {
		for _, good := range beside {
			// In the first place, in the last place and between others.
			for i := range len(good) + 1 {
				checkNoLinks(t, 4, slices.Insert(slices.Clone(good), i, l))
			}
		}
	}
	for _, good := range beside {
		checkLinks(t, 4, good, true)
	}
}

// circleOf returns links that lead from a slider over others and back to it.
func circleOf(sliders ...int) []impl.Link {
	var links []impl.Link
	for i, from := range sliders {
		links = append(links, impl.Link{From: from, To: sliders[(i+1)%len(sliders)], Factor: 1 - i%2*2})
	}
	return links
}

func TestCirclesOfLinks(t *testing.T) {
	order := []int{3, 0, 7, 4, 1, 6, 2, 5}
	for size := 2; size <= maxSliders; size++ {
		for first := 0; first+size <= maxSliders; first++ {
			circle := circleOf(order[first : first+size]...)
			checkNoLinks(t, maxSliders, circle)
			slices.Reverse(circle)
			checkNoLinks(t, maxSliders, circle)
			// It takes all its links to be a circle.
			for i := range circle {
				checkLinks(t, maxSliders, slices.Delete(slices.Clone(circle), i, i+1), true)
			}
			if twice := append(slices.Clone(circle[1:]), circle[1:]...); len(twice) <= maxLinks {
				checkLinks(t, maxSliders, twice, true)
			}
		}
	}
	checkNoLinks(t, 2, linksOf("0+1 1+0"))
	checkNoLinks(t, 2, linksOf("0-1 1-0"))
	checkNoLinks(t, 2, linksOf("0+1 1-0"))
	checkNoLinks(t, 3, linksOf("0+1 1+2 2+0"))
	checkNoLinks(t, 8, linksOf("0+1 1+2 2+3 3+4 4+5 5+6 6+7 7+0"))
	checkNoLinks(t, 8, linksOf("7+6 6+5 5+4 4+3 3+2 2+1 1+0 0+7"))
	// Two ways between the same sliders are no circle.
	checkLinks(t, 4, linksOf("0+1 1+3 0+2 2+3"), true)
	checkLinks(t, 4, linksOf("0+1 1+3 0+2 2+3 0+3 0+3"), true)
	checkLinks(t, 3, linksOf("0+1 1+2 0+2"), true)
	checkNoLinks(t, 3, linksOf("0+1 1+2 0+2 2+0"))
	checkNoLinks(t, 3, linksOf("0+1 1+2 0+2 2+1"))
}

// allOrders returns the numbers from 0 to n - 1 in each order.
func allOrders(n int) [][]int {
	if n == 0 {
		return [][]int{nil}
	}
	var orders [][]int
	for _, order := range allOrders(n - 1) {
		for i := range n {
			orders = append(orders, slices.Insert(slices.Clone(order), i, n-1))
		}
	}
	return orders
}

func TestAllCirclesAndChainsOfLinks(t *testing.T) {
	for size := 2; size <= maxSliders; size++ {
		for _, order := range allOrders(size) {
			circle := circleOf(order...)
			checkLinks(t, maxSliders, circle, false)
			checkLinks(t, size, circle[1:], true)
		}
	}
}

func TestCirclesBesideChains(t *testing.T) {
	for _, circle := range []string{"5+6 6+5", "5+6 6+7 7+5", "6-7 7-6"} {
		for _, chain := range []string{"0+1", "0+1 1+2 2+3 3+4", "0+1 0-2 1+3 2+3 3+4", "4+3 3+2 2+1 1+0", "0+1 0+1 0+1 0+1 0+1 0+1 0+1 0+1 0+1", "4+5 6+4", "0+5 1+6", "5+0 6+1"} {
			checkNoLinks(t, maxSliders, linksOf(chain+" "+circle))
			checkNoLinks(t, maxSliders, linksOf(circle+" "+chain))
		}
	}
	checkNoLinks(t, maxSliders, linksOf("0+1 1+0 2+3 3+2 4+5 5+4 6+7 7+6"))
	// Slider k is not linked, or reaches the circle, or is reached from it, or stands in it and does not move.
	for _, by := range []int{0, 1, -1, 100} {
		checkNoPull(t, wideSliders(3), linksOf("1+2 2+1"), 0, by)
		checkNoPull(t, wideSliders(4), linksOf("0+1 2+3 3+2"), 0, by)
		checkNoPull(t, wideSliders(3), linksOf("0+1 1+2 2+1"), 0, by)
		checkNoPull(t, wideSliders(3), linksOf("1+2 2+1 1+0"), 0, by)
		checkNoPull(t, stillSliders(2), linksOf("0+1 1+0"), 0, by)
		checkNoPull(t, stillSliders(8), circleOf(0, 1, 2, 3, 4, 5, 6, 7), 3, by)
	}
}

func TestNumberOfLinks(t *testing.T) {
	for _, n := range []int{2, 3, 8} {
		for count := range 30 {
			links := make([]impl.Link, count)
			for i := range links {
				links[i] = impl.Link{From: i % (n - 1), To: n - 1, Factor: 1 - i%2*2}
			}
			if count > maxLinks {
				checkNoLinks(t, n, links)
			} else {
				checkLinks(t, n, links, true)
				checkPulled(t, wideSliders(n), links, 0, 5)
			}
		}
	}
	checkNoLinks(t, 2, slices.Repeat(linksOf("0+1"), 1000))
	// All twelve links are worked.
	checkNows(t, wideSliders(2), strings.Repeat("0+1 ", 12), 0, 3, 3, 36)
	checkNows(t, wideSliders(2), strings.Repeat("0-1 ", 12), 0, 3, 3, -36)
	checkNows(t, wideSliders(3), strings.Repeat("0-1 ", 11)+"1+2", 0, 3, 3, -33, -33)
	checkNows(t, wideSliders(2), strings.Repeat("0+1 0-1 ", 6), 0, 3, 3, 0)
	checkNows(t, wideSliders(7), strings.Repeat("0+1 1+2 2+3 3+4 4+5 5+6 ", 2), 0, 1, 1, 2, 4, 8, 16, 32, 64)
	checkNows(t, wideSliders(7), strings.Repeat("0-1 1-2 2-3 3-4 4-5 5-6 ", 2), 0, 1, 1, -2, 4, -8, 16, -32, 64)
}

func TestSlidersWithoutLinks(t *testing.T) {
	for _, s := range someSlots() {
		for _, by := range []int{0, 1, -1, 2, 37, 99, -99, 100, -100} {
			checkPulled(t, []impl.Slider{s}, nil, 0, by)
		}
		for _, by := range numbersOutside(-100, 100) {
			checkNoPull(t, []impl.Slider{s}, nil, 0, by)
		}
	}
	// The slot is longer than the pull.
	checkNows(t, []impl.Slider{sliderOf(-100, 100, -100)}, "", 0, 100, 0)
	checkNows(t, []impl.Slider{sliderOf(-100, 100, 100)}, "", 0, -100, 0)
	checkNows(t, []impl.Slider{sliderOf(-100, 100, 1)}, "", 0, 100, 100)
	for k := range maxSliders {
		want := make([]int, maxSliders)
		want[k] = -9
		checkNows(t, wideSliders(maxSliders), "", k, -9, want...)
	}
}

func TestSeveralLinksFromOneSlider(t *testing.T) {
	// Factors that add up and that cancel out; what cancels out moves nothing after it.
	checkNows(t, wideSliders(3), "0+1 0+1 1+2", 0, 3, 3, 6, 6)
	checkNows(t, wideSliders(3), "0-1 0-1 1+2", 0, 3, 3, -6, -6)
	checkNows(t, wideSliders(3), "0+1 0-1 1+2", 0, 3, 3, 0, 0)
	checkNows(t, wideSliders(3), "0+1 0-1 0+1 1+2", 0, 3, 3, 3, 3)
	checkNows(t, wideSliders(3), "0-1 0+1 0-1 1-2", 0, 3, 3, -3, 3)
	// Against an end and back: it comes back from the end.
	at := func(low int, high int, now int) []impl.Slider {
		return []impl.Slider{sliderOf(-9, 9, 0), sliderOf(low, high, now), sliderOf(-9, 9, 0)}
	}
	checkNows(t, at(0, 5, 4), "0+1 0-1 1+2", 0, 3, 3, 2, -2)
	checkNows(t, at(0, 5, 4), "0-1 0+1 1+2", 0, 3, 3, 4, 0)
	checkNows(t, at(0, 5, 4), "0-1 0+1 1+2", 0, -3, -3, 2, -2)
	checkNows(t, at(0, 5, 4), "0+1 0-1 1+2", 0, -3, -3, 4, 0)
	checkNows(t, at(-5, 0, -4), "0-1 0+1 1+2", 0, 3, 3, -2, 2)
	checkNows(t, at(-5, 0, -4), "0+1 0-1 1+2", 0, 3, 3, -4, 0)
	checkNows(t, at(0, 5, 5), "0+1 0-1 1+2", 0, 3, 3, 2, -3)
	checkNows(t, at(0, 5, 5), "0-1 0+1 1+2", 0, 3, 3, 5, 0)
	checkNows(t, at(0, 1, 0), "0+1 0-1 1+2", 0, 3, 3, 0, 0)
	checkNows(t, at(0, 1, 0), "0-1 0+1 1+2", 0, 3, 3, 1, 1)
	checkNows(t, at(-1, 1, 0), "0+1 0-1 0+1 1+2", 0, 3, 3, 1, 1)
	checkNows(t, at(-1, 1, 0), "0+1 0+1 0-1 1+2", 0, 3, 3, -1, -1)
	// The first pull already reaches the end, and the second one goes nowhere.
	checkNows(t, at(-2, 2, 0), "0+1 0+1 1+2", 0, 3, 3, 2, 2)
	checkNows(t, at(-4, 4, 0), "0+1 0+1 1+2", 0, 3, 3, 4, 4)
	// Two pulls in one round over the whole of a slot.
	list := []impl.Slider{sliderOf(-100, 100, 0), sliderOf(-100, 100, -100), sliderOf(-100, 100, -100), sliderOf(-100, 100, 100)}
	checkNows(t, list, "0+1 0+1 1+2 1-3", 0, 100, 100, 100, 100, -100)
	checkNows(t, list, "0+1 0+1 0+1 1+2 1-3", 0, 80, 80, 100, 100, -100)
}

func TestLinksFromSeveralSliders(t *testing.T) {
	// In the same round: they add up, cancel out, and push against an end and back.
	checkNows(t, wideSliders(5), "0+1 0+2 1+3 2+3 3+4", 0, 2, 2, 2, 2, 4, 4)
	checkNows(t, wideSliders(5), "0+1 0-2 1+3 2+3 3+4", 0, 2, 2, 2, -2, 0, 0)
	checkNows(t, wideSliders(5), "0-1 0-2 1-3 2-3 3-4", 0, 2, 2, -2, -2, 4, -4)
	list := []impl.Slider{sliderOf(-9, 9, 0), sliderOf(-9, 9, 0), sliderOf(-9, 9, 0), sliderOf(0, 6, 5), sliderOf(-9, 9, 0)}
	checkNows(t, list, "0+1 0-2 1+3 2+3 3+4", 0, 4, 4, 4, -4, 2, -3)
	checkNows(t, list, "0+1 0-2 2+3 1+3 3+4", 0, 4, 4, 4, -4, 5, 0)
	checkNows(t, list, "2+3 0-2 3+4 0+1 1+3", 0, 4, 4, 4, -4, 5, 0)
	checkNows(t, list, "3+4 1+3 2+3 0-2 0+1", 0, 4, 4, 4, -4, 2, -3)
	// One of them is stopped before.
	list[1] = sliderOf(-9, 1, 0)
	checkNows(t, list, "0+1 0-2 1+3 2+3 3+4", 0, 4, 4, 1, -4, 2, -3)
	checkNows(t, list, "0+1 0-2 2+3 1+3 3+4", 0, 4, 4, 1, -4, 2, -3)
	// In different rounds.
	checkNows(t, wideSliders(4), "0+1 0+2 1+2 2+3", 0, 2, 2, 2, 4, 4)
	checkNows(t, wideSliders(4), "0+1 0+2 1-2 2+3", 0, 2, 2, 2, 0, 0)
	checkNows(t, wideSliders(4), "0-1 0+2 1-2 2+3", 0, 2, 2, -2, 4, 4)
}

func TestSlidersThatMoveInSeveralRounds(t *testing.T) {
	// Slider 2 moves by 2 and then by 1 to its end, and slider 3 in each round after.
	list := []impl.Slider{sliderOf(-9, 9, 0), sliderOf(-9, 9, 0), sliderOf(-9, 3, 0), sliderOf(-9, 9, 0)}
	checkNows(t, list, "0+1 0+2 1+2 2+3", 0, 2, 2, 2, 3, 3)
	checkNows(t, list, "2+3 1+2 0+2 0+1", 0, 2, 2, 2, 3, 3)
	// Slider 2 moves to its end and back, and slider 3, which is at its own end, only back.
	list = []impl.Slider{sliderOf(-9, 9, 0), sliderOf(-9, 9, 0), sliderOf(0, 1, 0), sliderOf(-5, 0, 0)}
	checkNows(t, list, "0+1 0+2 1-2 2+3", 0, 2, 2, 2, 0, -1)
	checkNows(t, list, "2+3 1-2 0+2 0+1", 0, 2, 2, 2, 0, -1)
	checkNows(t, list, "0+1 0-2 1+2 2+3", 0, 2, 2, 2, 1, 0)
	// In the second round it moves by nothing, and what moved it in the first one is not passed on again.
	checkNows(t, wideSliders(5), "0+1 1+2 0+3 2+3 3+4", 0, 5, 5, 5, 5, 10, 10)
	checkNows(t, wideSliders(5), "0+1 1+2 0+3 2-3 3+4", 0, 5, 5, 5, 5, 0, 0)
	// Over ways of one link, of two, of three and of four.
	checkNows(t, wideSliders(6), "0+1 1+2 2+3 0+4 1+4 2+4 3+4 4-5", 0, 5, 5, 5, 5, 5, 20, -20)
	list = slices.Repeat([]impl.Slider{sliderOf(-9, 9, 0)}, 6)
	list[4], list[5] = sliderOf(0, 7, 0), sliderOf(-3, 3, 0)
	checkNows(t, list, "0+1 1-2 2-3 0+4 1+4 2+4 3+4 4-5", 0, 5, 5, 5, -5, 5, 7, -3)
	checkNows(t, list, "0+1 1-2 2-3 0+4 1+4 2+4 3+4 4-5", 0, -5, -5, -5, 5, -5, 0, 2)
}

func TestForksThatJoinAgain(t *testing.T) {
	// Over one slider and over three.
	fork, other := "0+1 1+5 0+2 2+3 3+4 4+5 5+6", "5+6 4+5 3+4 2+3 0+2 1+5 0+1"
	list := slices.Repeat([]impl.Slider{sliderOf(-9, 9, 0)}, 7)
	for _, links := range []string{fork, other} {
		checkNows(t, wideSliders(7), links, 0, 3, 3, 3, 3, 3, 3, 6, 6)
		checkNows(t, wideSliders(7), strings.Replace(links, "4+5", "4-5", 1), 0, 3, 3, 3, 3, 3, 3, 0, 0)
		checkNows(t, wideSliders(7), strings.Replace(links, "1+5", "1-5", 1), 0, 3, 3, 3, 3, 3, 3, 0, 0)
		checkNows(t, list, links, 0, -6, -6, -6, -6, -6, -6, -9, -9)
	}
	// The short way comes first, to the end, and the long way comes back from there.
	list[5] = sliderOf(-9, 1, 0)
	for _, links := range []string{fork, other} {
		checkNows(t, list, strings.Replace(links, "4+5", "4-5", 1), 0, 4, 4, 4, 4, 4, 4, -3, -3)
		checkNows(t, list, strings.Replace(links, "1+5", "1-5", 1), 0, 4, 4, 4, 4, 4, 4, 0, 0)
	}
	// From another slider only a part of it moves.
	checkNows(t, wideSliders(7), fork, 2, 3, 0, 0, 3, 3, 3, 3, 3)
	checkNows(t, wideSliders(7), fork, 1, 3, 0, 3, 0, 0, 0, 3, 3)
	checkNows(t, wideSliders(7), fork, 5, 3, 0, 0, 0, 0, 0, 3, 3)
	checkNows(t, wideSliders(7), fork, 6, 3, 0, 0, 0, 0, 0, 0, 3)
}

func TestChainsOverAllSliders(t *testing.T) {
	forward, backward := "0+1 1+2 2+3 3+4 4+5 5+6 6+7", "7+6 6+5 5+4 4+3 3+2 2+1 1+0"
	mixed := "5+6 1+2 6+7 3+4 0+1 4+5 2+3"
	for _, by := range []int{0, 1, -1, 100, -100} {
		all := slices.Repeat([]int{by}, maxSliders)
		checkNows(t, wideSliders(maxSliders), forward, 0, by, all...)
		checkNows(t, wideSliders(maxSliders), backward, 7, by, all...)
		checkNows(t, wideSliders(maxSliders), mixed, 0, by, all...)
		checkNows(t, wideSliders(maxSliders), strings.ReplaceAll(mixed, "+", "-"), 0, by, by, -by, by, -by, by, -by, by, -by)
		for k := range maxSliders {
			want := slices.Concat(slices.Repeat([]int{0}, k), slices.Repeat([]int{by}, maxSliders-k))
			checkNows(t, wideSliders(maxSliders), forward, k, by, want...)
			checkNows(t, wideSliders(maxSliders), mixed, k, by, want...)
			slices.Reverse(want)
			checkNows(t, wideSliders(maxSliders), backward, maxSliders-1-k, by, want...)
		}
	}
	// Each slider has less room than the one before, and passes on only how far it moved.
	var list []impl.Slider
	for i := range maxSliders {
		list = append(list, sliderOf(-90+10*i, 80-10*i, 0))
	}
	for _, links := range []string{forward, mixed} {
		checkNows(t, list, links, 0, 100, 80, 70, 60, 50, 40, 30, 20, 10)
		checkNows(t, list, links, 0, -100, -90, -80, -70, -60, -50, -40, -30, -20)
		checkNows(t, list, links, 0, 35, 35, 35, 35, 35, 35, 30, 20, 10)
		checkNows(t, list, strings.ReplaceAll(links, "+", "-"), 0, 35, 35, -35, 35, -35, 35, -35, 20, -20)
	}
	checkNows(t, list, backward, 7, 100, 10, 10, 10, 10, 10, 10, 10, 10)
	// One of them stands at its end, and those after it stay.
	for stop := range maxSliders {
		list := wideSliders(maxSliders)
		list[stop] = sliderOf(-50, 0, 0)
		checkNows(t, list, forward, 0, 9, slices.Concat(slices.Repeat([]int{9}, stop), make([]int, maxSliders-stop))...)
		checkNows(t, list, forward, 0, -9, slices.Repeat([]int{-9}, maxSliders)...)
		list[stop] = sliderOf(3, 3, 3)
		want := slices.Concat(slices.Repeat([]int{9}, stop), []int{3}, make([]int, maxSliders-stop-1))
		checkNows(t, list, mixed, 0, 9, want...)
	}
}

func TestFactorsInARow(t *testing.T) {
	checkNows(t, wideSliders(3), "0-1", 0, 7, 7, -7, 0)
	checkNows(t, wideSliders(3), "0-1 1-2", 0, 7, 7, -7, 7)
	checkNows(t, wideSliders(3), "0-1 1+2", 0, 7, 7, -7, -7)
	checkNows(t, wideSliders(3), "0+1 1-2", 0, -7, -7, -7, 7)
	list := []impl.Slider{sliderOf(-9, 9, 0), sliderOf(-2, 9, 0), sliderOf(-9, 9, 0)}
	checkNows(t, list, "0-1 1-2", 0, 7, 7, -2, 2)
	checkNows(t, list, "0-1 1-2", 0, -7, -7, 7, -7)
	checkNows(t, list, "0-1 1-2", 1, -7, 0, -2, 2)
}

func TestSlidersAtTheirEnds(t *testing.T) {
	list := []impl.Slider{sliderOf(-3, 3, 3), sliderOf(-9, 9, 0)}
	checkNows(t, list, "0+1", 0, 1, 3, 0)
	checkNows(t, list, "0+1", 0, 100, 3, 0)
	checkNows(t, list, "0+1", 0, -2, 1, -2)
	checkNows(t, list, "0+1", 0, -100, -3, -6)
	checkNows(t, list, "0-1", 0, -100, -3, 6)
	list[0].Now = -3
	checkNows(t, list, "0+1", 0, -1, -3, 0)
	checkNows(t, list, "0+1", 0, 4, 1, 4)
	// In slots of one place nothing moves.
	for k := range maxSliders {
		for _, by := range []int{0, 1, -1, 100, -100} {
			still := stillSliders(maxSliders)
			checkPullAll(t, still, linksOf("0+1 1+2 2+3 3+4 4+5 5+6 6+7 0-3 2-7"), k, by, still, true)
		}
	}
	checkPullAll(t, []impl.Slider{{}}, nil, 0, 5, []impl.Slider{{}}, true)
	checkNows(t, []impl.Slider{{}, sliderOf(-5, 5, 0)}, "0+1", 0, 5, 0, 0)
	checkNows(t, []impl.Slider{sliderOf(-5, 5, 0), {}, sliderOf(-5, 5, 0)}, "0+1 1+2 0-2", 0, 5, 5, 0, -5)
}

func TestAllPullsOfFewSliders(t *testing.T) {
	slots := []impl.Slider{sliderOf(0, 1, 0), sliderOf(-1, 2, 1), sliderOf(-9, 9, 0)}
	pulls := 0
	for _, links := range listsOf(bothLinks(3), 3) {
		if !wantLinks(3, links) {
			checkNoPull(t, slots, links, len(links)%3, 1)
			continue
		}
		pulls++
		for i, list := range listsOf(slots, 3) {
			if len(list) < 3 {
				continue
			}
			for k := range 3 {
				for _, by := range []int{1, -1, 2, -3} {
					if len(links) < 3 || (i+pulls)%5 == 0 {
						checkPulled(t, list, links, k, by)
					}
				}
			}
		}
	}
	// Of two sliders with every place of some slots, and every pull over the whole of them.
	for _, links := range []string{"", "0+1", "0-1", "0+1 0+1", "0+1 0-1", "0-1 0+1", "1+0", "1-0 1+0 1-0"} {
		for _, first := range []int{-2, 0, 1, 2} {
			for second := -3; second <= 1; second++ {
				for k := range 2 {
					for by := -8; by <= 8; by++ {
						checkPulled(t, []impl.Slider{sliderOf(-2, 2, first), sliderOf(-3, 1, second)}, linksOf(links), k, by)
					}
				}
			}
		}
	}
}

// somePull returns sliders with links of which none leads back, in an order of its own.
func somePull(random *rand.Rand) ([]impl.Slider, []impl.Link) {
	n := 2 + random.Intn(maxSliders-1)
	list := make([]impl.Slider, n)
	for i := range list {
		low := random.Intn(60) - 30
		high := low + random.Intn(31)
		list[i] = sliderOf(low, high, low+random.Intn(high-low+1))
	}
	order := random.Perm(n)
	links := make([]impl.Link, random.Intn(maxLinks+1))
	for i := range links {
		from := random.Intn(n - 1)
		to := from + 1 + random.Intn(n-1-from)
		links[i] = impl.Link{From: order[from], To: order[to], Factor: 1 - 2*random.Intn(2)}
	}
	return list, links
}

func TestManyPulls(t *testing.T) {
	random := rand.New(rand.NewSource(17))
	for range 6000 {
		list, links := somePull(random)
		checkLinks(t, len(list), links, true)
		for range 4 {
			checkPulled(t, list, links, random.Intn(len(list)), random.Intn(201)-100)
		}
	}
}

func TestPullsFarFromTheEnds(t *testing.T) {
	random := rand.New(rand.NewSource(71))
	for range 4000 {
		list, links := somePull(random)
		k := random.Intn(len(list))
		// Far from both ends a slider moves by each way of links that leads to it; 12 links make at most 81 ways.
		want := make([]int, len(list))
		for i := range want {
			want[i] = factorsOf(links, k, i)
		}
		for _, by := range []int{1, -1} {
			sliders := wideSliders(len(list))
			for i := range sliders {
				sliders[i].Now = by * want[i]
			}
			checkPullAll(t, wideSliders(len(list)), links, k, by, sliders, true)
			// And the other pull leads back.
			checkPullAll(t, sliders, links, k, -by, wideSliders(len(list)), true)
		}
		// The order of the links does not matter there.
		slices.Reverse(links)
		got, ok := impl.PullAll(wideSliders(len(list)), links, k, 1)
		for i, s := range got {
			if !ok || s.Now != want[i] {
				t.Errorf("PullAll of wide sliders over %v from %d = %v, want %v", links, k, got, want)
			}
		}
	}
}

func TestPullsByNothing(t *testing.T) {
	random := rand.New(rand.NewSource(170))
	for range 500 {
		list, links := somePull(random)
		for k := range list {
			checkPullAll(t, list, links, k, 0, list, true)
		}
	}
}

func TestPullsThatAreNotAllowed(t *testing.T) {
	random := rand.New(rand.NewSource(1700))
	for range 60 {
		list, links := somePull(random)
		for k := range list {
			for _, by := range numbersOutside(-100, 100) {
				checkNoPull(t, list, links, k, by)
			}
			checkNoPull(t, list, links, k, 101)
			checkNoPull(t, list, links, k, -101)
			checkPulled(t, list, links, k, 100)
			checkPulled(t, list, links, k, -100)
		}
		for _, k := range numbersOutside(0, len(list)-1) {
			for _, by := range []int{0, 1, -100} {
				checkNoPull(t, list, links, k, by)
			}
		}
		checkNoPull(t, list, links, -1, 1)
		checkNoPull(t, list, links, len(list), 1)
	}
}

func TestPullsOfWrongSliders(t *testing.T) {
	for _, wrong := range wrongSliders() {
		for n := range maxSliders {
			// In the first place, in the last place and between others, with links and without.
			for at := range n + 1 {
				list := slices.Insert(wideSliders(n), at, wrong)
				for _, links := range []string{"", "0+1", "1-0"} {
					if n > 0 || links == "" {
						for _, k := range []int{0, at, n} {
							checkNoPull(t, list, linksOf(links), k, 0)
							checkNoPull(t, list, linksOf(links), k, 1)
						}
					}
				}
			}
		}
	}
}

func TestListsOfTooManySlidersAndOfNone(t *testing.T) {
	for _, by := range []int{0, 1, -100} {
		for _, k := range []int{-1, 0, 1, 8, 9} {
			checkNoPull(t, nil, nil, k, by)
			checkNoPull(t, []impl.Slider{}, []impl.Link{}, k, by)
			checkNoPull(t, nil, linksOf("0+1"), k, by)
			for _, n := range []int{maxSliders + 1, maxSliders + 2, 256 + 2, 1000} {
				checkNoPull(t, wideSliders(n), nil, k, by)
				checkNoPull(t, wideSliders(n), linksOf("0+1"), k, by)
				checkNoPull(t, stillSliders(n), nil, k, by)
			}
		}
	}
	checkNows(t, wideSliders(maxSliders), "0+7", 0, 1, 1, 0, 0, 0, 0, 0, 0, 1)
	checkNows(t, wideSliders(1), "", 0, 1, 1)
}

func TestSpentSliders(t *testing.T) {
	low, high, middle, one := sliderOf(-3, 4, -3), sliderOf(-3, 4, 4), sliderOf(-3, 4, 0), sliderOf(2, 2, 2)
	checkSpent(t, nil, true)
	checkSpent(t, []impl.Slider{}, true)
	checkSpent(t, []impl.Slider{{}}, true)
	for _, n := range []int{1, 2, 8, 9, 100} {
		checkSpent(t, slices.Repeat([]impl.Slider{low}, n), true)
		checkSpent(t, slices.Repeat([]impl.Slider{high}, n), true)
		checkSpent(t, slices.Repeat([]impl.Slider{one}, n), true)
		checkSpent(t, slices.Repeat([]impl.Slider{middle}, n), false)
		checkSpent(t, slices.Repeat([]impl.Slider{low, high, one}, n), true)
	}
	for _, list := range listsOf([]impl.Slider{low, high, middle, one, sliderOf(-3, 4, -2), sliderOf(-3, 4, 3)}, 4) {
		want := !slices.ContainsFunc(list, func(s impl.Slider) bool { return s.Now > s.Low && s.Now < s.High })
		checkSpent(t, list, want)
	}
	for _, s := range someSlots() {
		checkSpent(t, []impl.Slider{s}, s.Now == s.Low || s.Now == s.High)
	}
	for _, wrong := range wrongSliders() {
		checkSpent(t, []impl.Slider{wrong}, false)
		for at := range 4 {
			checkSpent(t, slices.Insert([]impl.Slider{low, high, one}, at, wrong), false)
		}
	}
}

func TestSlidersPulledToTheirEnds(t *testing.T) {
	list := []impl.Slider{sliderOf(-5, 5, 0), sliderOf(-5, 5, 1), sliderOf(-5, 5, -2)}
	links := linksOf("0+1 1-2 0-2")
	checkSpent(t, list, false)
	pulled, ok := impl.PullAll(list, links, 0, 100)
	if !ok || fmt.Sprint(pulled) != "[{-5 5 5} {-5 5 5} {-5 5 -5}]" {
		t.Errorf("PullAll = %v, %v", pulled, ok)
	}
	checkSpent(t, pulled, true)
	checkSpent(t, list, false)
	// Where all sliders stand at their ends, the same pull again moves nothing.
	checkPullAll(t, pulled, links, 0, 100, pulled, true)
}
