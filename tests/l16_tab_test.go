package tests

import (
	"fmt"
	"math"
	"slices"
	"strings"
	"testing"

	"loop.example/g03305/impl"
)

func bridgeOf(from int, to int, steps string) impl.Bridge {
	return impl.Bridge{From: from, To: to, Steps: steps}
}

func shortBridge(b impl.Bridge) string {
	return fmt.Sprintf("{%d %d %.40q}", b.From, b.To, b.Steps)
}

// isGoodStrip counts the letters of a text.
func isGoodStrip(s string) bool {
	down, forward := strings.Count(s, "d"), strings.Count(s, "f")
	return down >= 1 && down <= maxSteps && forward >= 1 && forward <= maxSteps && down+forward == len(s)
}

// isSpan reports whether a bridge can begin and end at these places of a strip.
func isSpan(s string, from int, to int) bool {
	return isGoodStrip(s) && from >= 0 && from < to && to <= len(s)
}

// leadsOf returns by how many steps forward one way leads another one of the same length, behind each number of steps from 0 on.
func leadsOf(way string, other string) []int {
	leads, lead := []int{0}, 0
	for i := range len(way) {
		if way[i] == 'f' {
			lead++
		}
		if other[i] == 'f' {
			lead--
		}
		leads = append(leads, lead)
	}
	return leads
}

// wantFits reports whether a bridge can be glued to a text, told from the letters of both one by one.
func wantFits(s string, b impl.Bridge) bool {
	if !isSpan(s, b.From, b.To) || len(b.Steps) != b.To-b.From || strings.Trim(b.Steps, "df") != "" {
		return false
	}
	leads := leadsOf(b.Steps, s[b.From:b.To])
	return slices.Min(leads) == 0 && leads[len(b.Steps)] == 0
}

// wantLoose reports whether a bridge that fits leads the strip at all places between its ends.
func wantLoose(s string, b impl.Bridge) bool {
	leads := leadsOf(b.Steps, s[b.From:b.To])
	return !slices.Contains(leads[1:len(b.Steps)], 0)
}

// waysOver returns the Steps of all bridges that fit at two places of a strip.
func waysOver(s string, from int, to int) []string {
	part := s[from:to]
	return slices.DeleteFunc(stripsOf(strings.Count(part, "d"), strings.Count(part, "f")), func(steps string) bool {
		return slices.Min(leadsOf(steps, part)) < 0
	})
}

// checkGlued expects these results of a bridge.
func checkGlued(t *testing.T, s string, b impl.Bridge, ok bool, way string, room int, loose bool) {
	t.Helper()
	if got := impl.BridgeOk(s, b); got != ok {
		t.Errorf("BridgeOk(%.40q, %s) = %v", s, shortBridge(b), got)
	}
	if got := impl.BridgedStrip(s, b); got != way {
		t.Errorf("BridgedStrip(%.40q, %s) = %.40q, want %q", s, shortBridge(b), got, way)
	}
	if got := impl.RoomBetween(s, b); got != room {
		t.Errorf("RoomBetween(%.40q, %s) = %d, want %d", s, shortBridge(b), got, room)
	}
	if got := impl.IsLoose(s, b); got != loose {
		t.Errorf("IsLoose(%.40q, %s) = %v", s, shortBridge(b), got)
	}
}

// checkNoBridge expects that every function rejects a bridge.
func checkNoBridge(t *testing.T, s string, b impl.Bridge) {
	t.Helper()
	checkGlued(t, s, b, false, "", -1, false)
}

// checkPromisedBridge expects that a bridge is a higher strip, and that the room under it is added.
func checkPromisedBridge(t *testing.T, s string, b impl.Bridge) {
	t.Helper()
	way, room := impl.BridgedStrip(s, b), impl.RoomBetween(s, b)
	if !impl.SameFrame(way, s) || !impl.IsAbove(way, s) || way[:b.From] != s[:b.From] || way[b.To:] != s[b.To:] {
		t.Errorf("BridgedStrip(%q, %v) = %q", s, b, way)
	}
	if own := b.Steps == s[b.From:b.To]; own != (way == s) || own != (room == 0) {
		t.Errorf("the bridge %v over %q leads over %q with the room %d", b, s, way, room)
	}
	if room != impl.AreaBetween(s, way) || room != impl.AreaBetween(way, s) || room != impl.RoomUnder(way)-impl.RoomUnder(s) {
		t.Errorf("RoomBetween(%q, %v) = %d, but the rooms are %d and %d", s, b, room, impl.RoomUnder(s), impl.RoomUnder(way))
	}
}

// checkBridgeIs expects a bridge that fits, with these results, and the same ones if both pages are exchanged.
func checkBridgeIs(t *testing.T, s string, b impl.Bridge, way string, room int, loose bool) {
	t.Helper()
	checkGlued(t, s, b, true, way, room, loose)
	checkPromisedBridge(t, s, b)
	turned := bridgeOf(len(s)-b.To, len(s)-b.From, wantTurned(b.Steps))
	checkGlued(t, wantTurned(s), turned, true, wantTurned(way), room, loose)
}

// checkBridge compares a bridge with the letters of the strip and with the squares between both ways, and reports whether it fits.
func checkBridge(t *testing.T, s string, b impl.Bridge) bool {
	t.Helper()
	if !wantFits(s, b) {
		checkNoBridge(t, s, b)
		return false
	}
	way := s[:b.From] + b.Steps + s[b.To:]
	checkBridgeIs(t, s, b, way, wantArea(s, way), wantLoose(s, b))
	return true
}

// checkBelow expects that a bridge does not fit as it is below the strip behind this number of steps, and nowhere else.
func checkBelow(t *testing.T, s string, b impl.Bridge, at int) {
	t.Helper()
	for i, lead := range leadsOf(b.Steps, s[b.From:b.To]) {
		if (lead < 0) != (b.From+i == at) {
			t.Fatalf("%v over %q leads by %d behind %d steps", b, s, lead, b.From+i)
		}
	}
	checkNoBridge(t, s, b)
}

func checkBridgeCount(t *testing.T, s string, from int, to int, want int) {
	t.Helper()
	if got := impl.BridgeCount(s, from, to); got != want {
		t.Errorf("BridgeCount(%.40q, %d, %d) = %d, want %d", s, from, to, got, want)
	}
}

// checkAllSteps tries every word as the Steps of a bridge at two places, and expects that as many fit as are counted.
func checkAllSteps(t *testing.T, s string, from int, to int, words []string) {
	t.Helper()
	fits := 0
	for _, steps := range words {
		if checkBridge(t, s, bridgeOf(from, to, steps)) {
			fits++
		}
	}
	checkBridgeCount(t, s, from, to, fits)
}

// checkSpans runs a check for every From and To of a strip.
func checkSpans(s string, check func(from int, to int)) {
	for to := 1; to <= len(s); to++ {
		for from := range to {
			check(from, to)
		}
	}
}

// checkNoSpan expects that no bridge and no number of bridges is found at places that are not in their ranges.
func checkNoSpan(t *testing.T, s string, from int, to int) {
	t.Helper()
	checkBridgeCount(t, s, from, to, 0)
	for _, steps := range []string{"", "d", "f", "df", "fd", "ffdd", s} {
		checkNoBridge(t, s, bridgeOf(from, to, steps))
	}
	// The steps that lie between both places as far as there are any.
	first, last := min(max(from, 0), len(s)), min(max(to, 0), len(s))
	if first < last {
		checkNoBridge(t, s, bridgeOf(from, to, s[first:last]))
	}
}

// checkNoBridges expects that nothing can be glued to a text that is no strip, not even its own steps.
func checkNoBridges(t *testing.T, s string) {
	t.Helper()
	last := min(len(s), 2*maxSteps+3)
	for to := -1; to <= last+1; to++ {
		for from := -1; from <= to; from++ {
			checkNoSpan(t, s, from, to)
		}
	}
	checkNoSpan(t, s, 0, len(s))
	checkNoSpan(t, s, len(s)-2, len(s))
}

// bridgedStrips returns strips of all kinds of frames for which all places are tried.
func bridgedStrips() []string {
	strips := slices.Concat(stripsOf(3, 3), stripsOf(2, 5), stripsOf(5, 2), stripsOf(1, maxSteps), stripsOf(maxSteps, 1), someStrips(maxSteps, maxSteps, 997), someStrips(maxSteps, 3, 11), someStrips(3, maxSteps, 11))
	for _, frame := range allFrames() {
		strips = append(strips, nearlyHighStrips(frame[0], frame[1])...)
	}
	return slices.DeleteFunc(strips, func(s string) bool { return !isGoodStrip(s) })
}

func TestAllBridgesOfSmallStrips(t *testing.T) {
	words := allWords(6)
	for _, s := range allWords(5) {
		for to := -1; to <= len(s)+1; to++ {
			for from := -1; from <= len(s)+1; from++ {
				checkAllSteps(t, s, from, to, words)
			}
		}
	}
}

func TestBridgesAtAllPlacesOfStrips(t *testing.T) {
	for _, frame := range [][2]int{{3, 3}, {2, 4}, {4, 2}, {1, 5}, {5, 1}, {3, 4}, {4, 3}, {6, 1}, {1, 7}, {5, 2}, {2, 5}, {maxSteps, 1}, {1, maxSteps}} {
		for _, s := range stripsOf(frame[0], frame[1]) {
			checkSpans(s, func(from int, to int) {
				down := strings.Count(s[from:to], "d")
				checkAllSteps(t, s, from, to, stripsOf(down, to-from-down))
				// With the same number of steps, but one more or one less forward.
				for _, other := range []int{down - 1, down + 1} {
					if other >= 0 && other <= to-from {
						for _, steps := range stripsOf(other, to-from-other) {
							checkNoBridge(t, s, bridgeOf(from, to, steps))
						}
					}
				}
			})
		}
	}
}

func TestBridgesOverAllStepsOfStrips(t *testing.T) {
	for _, strips := range [][]string{stripsOf(4, 4), stripsOf(6, 2), stripsOf(2, 6), someStrips(maxSteps, maxSteps, 131), someStrips(7, maxSteps, 101), someStrips(maxSteps, 3, 3)} {
		for _, s := range strips {
			for _, u := range strips {
				if checkBridge(t, s, bridgeOf(0, len(s), u)) != impl.IsAbove(u, s) {
					t.Errorf("%q is above %q: %v", u, s, impl.IsAbove(u, s))
				}
			}
		}
	}
}

func TestBridgesOfStripsOfEveryFrame(t *testing.T) {
	for i, s := range stripsOfEveryFrame() {
		if len(s) > 8 && i%37 > 0 {
			continue
		}
		checkSpans(s, func(from int, to int) {
			part := s[from:to]
			d, f := strings.Repeat("d", strings.Count(part, "d")), strings.Repeat("f", strings.Count(part, "f"))
			// The own steps of the strip, the highest and the lowest way, and those steps from their last one to the first.
			checkBridgeIs(t, s, bridgeOf(from, to, part), s, 0, to-from == 1)
			for _, steps := range []string{f + d, d + f, turnedRound(part), wantTurned(part)} {
				checkBridge(t, s, bridgeOf(from, to, steps))
			}
		})
	}
}

func TestBridgesThatTouch(t *testing.T) {
	// At both ends alone.
	checkBridgeIs(t, "df", bridgeOf(0, 2, "fd"), "fd", 1, true)
	checkBridgeIs(t, "ddff", bridgeOf(0, 4, "ffdd"), "ffdd", 4, true)
	checkBridgeIs(t, "ddff", bridgeOf(0, 4, "fdfd"), "fdfd", 3, true)
	checkBridgeIs(t, "dfdf", bridgeOf(0, 4, "ffdd"), "ffdd", 3, true)
	checkBridgeIs(t, "ffdddfffdd", bridgeOf(2, 8, "fdffdd"), "fffdffdddd", 7, true)
	checkBridgeIs(t, strings.Repeat("df", maxSteps), bridgeOf(0, 2*maxSteps, "f"+strings.Repeat("fd", maxSteps-1)+"d"), "f"+strings.Repeat("fd", maxSteps-1)+"d", 15, true)
	// At one place between them: behind the first step, in the middle and before the last step.
	checkBridgeIs(t, "fddff", bridgeOf(0, 5, "fffdd"), "fffdd", 4, false)
	checkBridgeIs(t, "fddff", bridgeOf(0, 5, "ffdfd"), "ffdfd", 3, false)
	checkBridgeIs(t, "dddff", bridgeOf(0, 5, "dffdd"), "dffdd", 4, false)
	checkBridgeIs(t, "dfdf", bridgeOf(0, 4, "fdfd"), "fdfd", 2, false)
	checkBridgeIs(t, "ddffddff", bridgeOf(0, 8, "ffddffdd"), "ffddffdd", 8, false)
	checkBridgeIs(t, "ddffddff", bridgeOf(0, 8, "fdfdfdfd"), "fdfdfdfd", 6, false)
	checkBridgeIs(t, "ddffd", bridgeOf(0, 5, "ffddd"), "ffddd", 4, false)
	checkBridgeIs(t, "ddfff", bridgeOf(0, 5, "ffddf"), "ffddf", 4, false)
	// At several places.
	checkBridgeIs(t, "dfdfdf", bridgeOf(0, 6, "fdfdfd"), "fdfdfd", 3, false)
	checkBridgeIs(t, "ddffddff", bridgeOf(0, 8, "dfdfdfdf"), "dfdfdfdf", 2, false)
	checkBridgeIs(t, "dffdfdf", bridgeOf(1, 7, "ffdffd"), "dffdffd", 1, false)
	checkBridgeIs(t, "fddfffdd", bridgeOf(0, 8, "ffddffdd"), "ffddffdd", 2, false)
	checkBridgeIs(t, strings.Repeat("df", maxSteps), bridgeOf(0, 2*maxSteps, strings.Repeat("fd", maxSteps)), strings.Repeat("fd", maxSteps), maxSteps, false)
	// At all places: the own steps of the strip.
	checkBridgeIs(t, "dfdf", bridgeOf(0, 4, "dfdf"), "dfdf", 0, false)
	checkBridgeIs(t, "dfdf", bridgeOf(1, 3, "fd"), "dfdf", 0, false)
	checkBridgeIs(t, "dfdf", bridgeOf(0, 2, "df"), "dfdf", 0, false)
	checkBridgeIs(t, "ddff", bridgeOf(0, 2, "dd"), "ddff", 0, false)
	checkBridgeIs(t, "ddff", bridgeOf(2, 4, "ff"), "ddff", 0, false)
	// With equal steps where both ways are apart.
	checkBridgeIs(t, "dddfff", bridgeOf(1, 5, "fdfd"), "dfdfdf", 3, true)
}

func TestBridgesThatBeginOrEndLikeTheStrip(t *testing.T) {
	for _, one := range []struct {
		s, way string
		room   int
	}{{"ddff", "dfdf", 1}, {"fddff", "ffddf", 2}, {"dfdffd", "dffdfd", 1}, {"ffddffdd", "ffdffddd", 2}, {"ddddffff", "ddffffdd", 8}, {"ffdddfffdd", "ffffdddfdd", 6}} {
		n := len(one.s)
		same := 0
		for one.s[same] == one.way[same] {
			same++
		}
		end := n
		for one.s[end-1] == one.way[end-1] {
			end--
		}
		// Each bridge from a place before the first difference to one behind the last one is the same way.
		for from := range same + 1 {
			for to := end; to <= n; to++ {
				loose := from == same && to == end && wantLoose(one.s, bridgeOf(from, to, one.way[from:to]))
				checkBridgeIs(t, one.s, bridgeOf(from, to, one.way[from:to]), one.way, one.room, loose)
			}
		}
		// A shorter one does not lead back to the strip.
		for to := same + 1; to < end; to++ {
			checkBridge(t, one.s, bridgeOf(0, to, one.way[:to]))
			checkBridge(t, one.s, bridgeOf(to, n, one.way[to:]))
		}
		checkNoBridge(t, one.s, bridgeOf(0, same+1, one.way[:same+1]))
		checkNoBridge(t, one.s, bridgeOf(end-1, n, one.way[end-1:]))
	}
}

func TestBridgesFromTheFirstAndToTheLastPlace(t *testing.T) {
	checkBridgeIs(t, "dfdf", bridgeOf(0, 1, "d"), "dfdf", 0, true)
	checkBridgeIs(t, "dfdf", bridgeOf(0, 2, "fd"), "fddf", 1, true)
	checkBridgeIs(t, "dfdf", bridgeOf(2, 4, "fd"), "dffd", 1, true)
	checkBridgeIs(t, "dfdf", bridgeOf(3, 4, "f"), "dfdf", 0, true)
	checkBridgeIs(t, "dfdf", bridgeOf(1, 4, "ffd"), "dffd", 1, false)
	checkBridgeIs(t, "dddff", bridgeOf(0, 4, "fddd"), "fdddf", 3, true)
	checkBridgeIs(t, "dddff", bridgeOf(1, 5, "ffdd"), "dffdd", 4, true)
	checkBridgeIs(t, "dddff", bridgeOf(0, 5, "ffddd"), "ffddd", 6, true)
	checkBridgeIs(t, "fd", bridgeOf(0, 2, "fd"), "fd", 0, false)
	checkBridgeIs(t, "fd", bridgeOf(0, 1, "f"), "fd", 0, true)
	checkBridgeIs(t, "fd", bridgeOf(1, 2, "d"), "fd", 0, true)
	checkNoBridge(t, "df", bridgeOf(0, 1, "f"))
	checkNoBridge(t, "fd", bridgeOf(1, 2, "f"))
}

func TestBridgesOfOneStepAndOfTwo(t *testing.T) {
	for _, s := range append(bridgedStrips(), "df", "fd") {
		for k := range len(s) {
			other := "d"
			if s[k] == 'd' {
				other = "f"
			}
			checkBridgeIs(t, s, bridgeOf(k, k+1, s[k:k+1]), s, 0, true)
			checkNoBridge(t, s, bridgeOf(k, k+1, other))
			checkBridgeCount(t, s, k, k+1, 1)
		}
		for k := 1; k < len(s); k++ {
			checkAllSteps(t, s, k-1, k+1, []string{"dd", "df", "fd", "ff"})
			raised, ok := impl.RaiseAt(s, k)
			if ok {
				checkBridgeIs(t, s, bridgeOf(k-1, k+1, "fd"), raised, 1, true)
				checkBelow(t, raised, bridgeOf(k-1, k+1, "df"), k)
				checkBridgeCount(t, s, k-1, k+1, 2)
				checkBridgeCount(t, raised, k-1, k+1, 1)
			}
		}
	}
}

func TestBridgesOverFlatAndHighStrips(t *testing.T) {
	for _, frame := range allFrames() {
		down, forward := frame[0], frame[1]
		flat, high, n := impl.FlatStrip(down, forward), impl.HighStrip(down, forward), down+forward
		checkBridgeIs(t, flat, bridgeOf(0, n, high), high, down*forward, true)
		checkBridgeCount(t, flat, 0, n, chooseOf(n, down))
		checkSpans(flat, func(from int, to int) {
			d, f := max(down-from, 0)-max(down-to, 0), max(to-down, 0)-max(from-down, 0)
			steps := strings.Repeat("f", f) + strings.Repeat("d", d)
			checkBridgeIs(t, flat, bridgeOf(from, to, steps), flat[:from]+steps+flat[to:], d*f, to-from == 1 || d > 0 && f > 0)
			checkBridgeCount(t, flat, from, to, chooseOf(d+f, d))
		})
		// Nothing is above a high strip.
		checkSpans(high, func(from int, to int) {
			checkBridgeIs(t, high, bridgeOf(from, to, high[from:to]), high, 0, to-from == 1)
			checkBridgeCount(t, high, from, to, 1)
		})
		for k := 1; k <= min(down, forward); k++ {
			for _, steps := range someStrips(k, k, k*k) {
				if steps != impl.HighStrip(k, k) {
					checkNoBridge(t, high, bridgeOf(forward-k, forward+k, steps))
				}
			}
		}
	}
	for i, u := range stripsOf(maxSteps, maxSteps) {
		high := impl.HighStrip(maxSteps, maxSteps)
		if u != high {
			checkNoBridge(t, high, bridgeOf(0, 2*maxSteps, u))
		}
		if i%3 == 0 {
			checkBridge(t, impl.FlatStrip(maxSteps, maxSteps), bridgeOf(0, 2*maxSteps, u))
		}
	}
}

func TestBridgesUponBridges(t *testing.T) {
	for _, s := range slices.Concat(stripsOf(3, 3), stripsOf(2, 4), stripsOf(4, 2)) {
		checkSpans(s, func(from int, to int) {
			for _, steps := range waysOver(s, from, to) {
				b := bridgeOf(from, to, steps)
				way := impl.BridgedStrip(s, b)
				// The bridge is the part of its own way, and the steps under it do not fit over it.
				checkBridgeIs(t, way, b, way, 0, to-from == 1)
				if way != s {
					checkNoBridge(t, way, bridgeOf(from, to, s[from:to]))
				}
				for _, higher := range waysOver(way, from, to) {
					c := bridgeOf(from, to, higher)
					sum := impl.RoomBetween(s, b) + impl.RoomBetween(way, c)
					checkGlued(t, s, c, true, impl.BridgedStrip(way, c), sum, wantLoose(s, c))
				}
			}
		})
	}
}

func TestBridgeCountsOfAllPlaces(t *testing.T) {
	for _, s := range bridgedStrips() {
		checkSpans(s, func(from int, to int) { checkBridgeCount(t, s, from, to, wantAbove(s[from:to])) })
		checkBridgeCount(t, s, 0, len(s), impl.CountAbove(s))
		for _, n := range numbersOutside(0, len(s)) {
			checkBridgeCount(t, s, n, len(s), 0)
			checkBridgeCount(t, s, 0, n, 0)
		}
	}
	for _, s := range someStrips(maxSteps, maxSteps, 1301) {
		checkSpans(s, func(from int, to int) { checkBridgeCount(t, s, from, to, len(waysOver(s, from, to))) })
	}
}

func TestCountedBridges(t *testing.T) {
	checkBridgeCount(t, "df", 0, 2, 2)
	checkBridgeCount(t, "fd", 0, 2, 1)
	checkBridgeCount(t, "dfdf", 0, 4, 5)
	checkBridgeCount(t, "dfdf", 1, 4, 2)
	checkBridgeCount(t, "dfdf", 0, 3, 2)
	checkBridgeCount(t, "dfdf", 1, 3, 1)
	checkBridgeCount(t, "dfdf", 1, 2, 1)
	checkBridgeCount(t, "ddff", 0, 2, 1)
	checkBridgeCount(t, "ddff", 2, 4, 1)
	checkBridgeCount(t, "ddff", 1, 4, 3)
	checkBridgeCount(t, "fddff", 0, 5, 6)
	checkBridgeCount(t, "fddff", 0, 3, 1)
	checkBridgeCount(t, "dfff", 0, 3, 3)
	checkBridgeCount(t, "dddf", 1, 4, 3)
	flat := impl.FlatStrip(maxSteps, maxSteps)
	checkBridgeCount(t, flat, 0, 16, 12870)
	checkBridgeCount(t, flat, 1, 16, 6435)
	checkBridgeCount(t, flat, 0, 15, 6435)
	checkBridgeCount(t, flat, 1, 15, 3432)
	checkBridgeCount(t, flat, 0, 8, 1)
	checkBridgeCount(t, flat, 8, 16, 1)
	checkBridgeCount(t, "dddddddfdfffffff", 0, 16, 12869)
	// The ways that are nowhere below a stair are counted by the Catalan numbers.
	for i, catalan := range []int{1, 2, 5, 14, 42, 132, 429, 1430} {
		checkBridgeCount(t, strings.Repeat("fd", i+1), 0, 2*i+2, catalan)
		if i > 0 {
			checkBridgeCount(t, strings.Repeat("df", i), 0, 2*i, catalan)
			checkBridgeCount(t, "f"+strings.Repeat("df", i)+"d", 1, 2*i+1, catalan)
		}
	}
	checkBridgeCount(t, strings.Repeat("df", maxSteps), 0, 2*maxSteps, 4862)
}

func TestHigherStripsHaveFewerBridges(t *testing.T) {
	greatest := 0
	for _, s := range stripsOf(maxSteps, maxSteps) {
		greatest = max(greatest, impl.BridgeCount(s, 0, len(s)))
	}
	if greatest != 12870 {
		t.Errorf("the greatest number of bridges is %d", greatest)
	}
	for _, s := range stripsOf(4, 3) {
		for _, k := range impl.RaisesOf(s) {
			raised, _ := impl.RaiseAt(s, k)
			checkSpans(s, func(from int, to int) {
				if from < k && k < to && impl.BridgeCount(raised, from, to) >= impl.BridgeCount(s, from, to) {
					t.Errorf("%d bridges over %q and %d over %q from %d to %d", impl.BridgeCount(s, from, to), s, impl.BridgeCount(raised, from, to), raised, from, to)
				}
			})
		}
	}
}

func TestBridgesBelowTheStrip(t *testing.T) {
	checkNoBridge(t, "ffdd", bridgeOf(0, 4, "dfdf"))
	checkNoBridge(t, "ffdd", bridgeOf(0, 4, "ddff"))
	// Behind the first step alone.
	checkBelow(t, "fd", bridgeOf(0, 2, "df"), 1)
	checkBelow(t, "fddf", bridgeOf(0, 4, "dfdf"), 1)
	checkBelow(t, "fddf", bridgeOf(0, 4, "dffd"), 1)
	checkBelow(t, "fddffd", bridgeOf(0, 6, "dfffdd"), 1)
	checkBelow(t, "ddfddff", bridgeOf(2, 7, "dffdf"), 3)
	// At one place in the middle.
	checkBelow(t, "dfdf", bridgeOf(0, 4, "ddff"), 2)
	checkBelow(t, "ddffdf", bridgeOf(0, 6, "dfddff"), 4)
	checkBelow(t, "dffddf", bridgeOf(0, 6, "fddffd"), 3)
	checkBelow(t, "dffdff", bridgeOf(0, 6, "dfdfff"), 3)
	checkBelow(t, "fdffddfd", bridgeOf(1, 7, "fddffd"), 4)
	// Before the last step alone.
	checkBelow(t, "dffd", bridgeOf(0, 4, "fddf"), 3)
	checkBelow(t, "ddfffd", bridgeOf(0, 6, "dffddf"), 5)
	checkBelow(t, "dffd", bridgeOf(0, 4, "dfdf"), 3)
	checkBelow(t, "fddffdd", bridgeOf(1, 6, "dfddf"), 5)
}

func TestBridgesBelowTheStripAtEachPlace(t *testing.T) {
	for _, s := range slices.Concat(stripsOf(4, 4), stripsOf(2, 5), stripsOf(5, 2), stripsOf(1, maxSteps), stripsOf(maxSteps, 1), someStrips(maxSteps, maxSteps, 97)) {
		for _, k := range impl.RaisesOf(s) {
			raised := s[:k-1] + "fd" + s[k+1:]
			checkBelow(t, raised, bridgeOf(0, len(s), s), k)
			checkBelow(t, raised, bridgeOf(k-1, k+1, "df"), k)
			// The bridge may be above the strip at all other places.
			for _, other := range impl.RaisesOf(s) {
				if other != k {
					checkBelow(t, raised, bridgeOf(0, len(s), s[:other-1]+"fd"+s[other+1:]), k)
				}
			}
		}
	}
}

func TestPlacesOutsideOfTheStrip(t *testing.T) {
	for _, s := range []string{"df", "fd", "dff", "dfdf", "ffdd", "fddffdfd", "dffffffff", strings.Repeat("df", maxSteps), impl.FlatStrip(maxSteps, maxSteps), impl.HighStrip(maxSteps, maxSteps)} {
		n := len(s)
		numbers := numbersOutside(0, n)
		for _, outside := range numbers {
			for k := -1; k <= n+1; k++ {
				checkNoSpan(t, s, outside, k)
				checkNoSpan(t, s, k, outside)
			}
			for _, other := range numbers {
				checkNoSpan(t, s, outside, other)
			}
			// The difference is the number of steps, though it may wrap around.
			for _, steps := range []string{s, s[:1], s[n-1:], s[:2]} {
				checkNoBridge(t, s, bridgeOf(outside, outside+len(steps), steps))
				checkNoBridge(t, s, bridgeOf(outside-len(steps), outside, steps))
			}
		}
		for to := range n + 1 {
			for from := to; from <= n; from++ {
				checkNoSpan(t, s, from, to)
				checkNoBridge(t, s, bridgeOf(from, to, s[to:from]))
			}
		}
		checkNoBridge(t, s, impl.Bridge{})
		checkNoBridge(t, s, impl.Bridge{Steps: s})
		checkNoBridge(t, s, impl.Bridge{To: n})
		checkNoBridge(t, s, impl.Bridge{To: n, Steps: ""})
	}
}

func TestStepsOfOtherLengths(t *testing.T) {
	for _, s := range bridgedStrips() {
		if len(s) > 6 && len(s)%4 > 0 {
			continue
		}
		checkSpans(s, func(from int, to int) {
			part := s[from:to]
			for _, steps := range []string{"", part[1:], part[:len(part)-1], part + "d", part + "f", "d" + part, "f" + part, part + part, part + "df", "fd" + part, part + " ", "\n" + part, s + s} {
				if steps != part {
					checkNoBridge(t, s, bridgeOf(from, to, steps))
				}
			}
			// With as many steps as lie before or behind the place.
			if steps := s[:to]; from > 0 {
				checkNoBridge(t, s, bridgeOf(from, to, steps))
			}
			if steps := s[from:]; to < len(s) {
				checkNoBridge(t, s, bridgeOf(from, to, steps))
			}
		})
	}
	for _, n := range []int{9, 17, 256, 257, 258, 65536, 65538, 200000} {
		for _, letters := range []string{"d", "f", "df", "fd"} {
			long := strings.Repeat(letters, n)
			for _, s := range []string{"df", "dfdf", "ffdd", strings.Repeat("df", maxSteps)} {
				for _, b := range []impl.Bridge{bridgeOf(0, 2, long), bridgeOf(0, 1, long), bridgeOf(1, 2, long), bridgeOf(0, len(s), long), bridgeOf(len(s)-2, len(s), long)} {
					checkNoBridge(t, s, b)
				}
			}
		}
	}
}

func TestStepsOfOtherLetters(t *testing.T) {
	for _, s := range []string{"df", "fd", "dfdf", "ddff", "dfdffdf", strings.Repeat("df", maxSteps)} {
		checkSpans(s, func(from int, to int) {
			part := s[from:to]
			for i := range len(part) {
				for letter := range 256 {
					// One letter alone cannot be the other one, as the numbers would differ.
					if byte(letter) != part[i] {
						checkNoBridge(t, s, bridgeOf(from, to, part[:i]+string([]byte{byte(letter)})+part[i+1:]))
					}
				}
			}
			checkNoBridge(t, s, bridgeOf(from, to, strings.ToUpper(part)))
			checkNoBridge(t, s, bridgeOf(from, to, strings.Repeat("x", len(part))))
			// The letters of these texts would be right ones if they were narrowed to one byte.
			wide := strings.NewReplacer("d", "\u0164", "f", "\u0166").Replace(part)
			checkNoBridge(t, s, bridgeOf(from, to, wide))
			if to-from == len(part) && len(wide) <= len(s) {
				checkNoBridge(t, s, bridgeOf(0, len(wide), wide))
			}
		})
	}
}

func TestStepsWithOtherNumbersOfLetters(t *testing.T) {
	// Some of these ways are strips of other frames, or of the same frame if the bridge lay at other places.
	for _, b := range []impl.Bridge{bridgeOf(0, 2, "ff"), bridgeOf(0, 2, "dd"), bridgeOf(2, 4, "ff"), bridgeOf(2, 4, "dd"), bridgeOf(1, 3, "ff"), bridgeOf(1, 3, "dd"), bridgeOf(0, 1, "f"), bridgeOf(1, 2, "d"), bridgeOf(2, 3, "f"), bridgeOf(3, 4, "d"), bridgeOf(0, 3, "fdf"), bridgeOf(0, 3, "ffd"), bridgeOf(1, 4, "fdd"), bridgeOf(0, 4, "fffd"), bridgeOf(0, 4, "fddd"), bridgeOf(0, 4, "dddd"), bridgeOf(0, 4, "ffff")} {
		checkNoBridge(t, "dfdf", b)
	}
	for n := 1; n < maxSteps; n++ {
		d, f := strings.Repeat("d", n), strings.Repeat("f", n)
		checkNoBridge(t, d+f, bridgeOf(0, n, f))
		checkNoBridge(t, d+f, bridgeOf(n, 2*n, d))
		checkNoBridge(t, d+f, bridgeOf(n-1, n, "f"))
		checkNoBridge(t, d+f, bridgeOf(0, 2*n, f+f))
		checkNoBridge(t, d+f, bridgeOf(0, 2*n, f+d[1:]+"f"))
		checkNoBridge(t, d+f, bridgeOf(0, 2*n, f[1:]+"d"+d))
	}
}

func TestNothingIsGluedToOtherTexts(t *testing.T) {
	for _, s := range append(otherTexts(), textsWithOtherBytes()...) {
		checkNoBridges(t, s)
	}
	for n := range maxSteps + 3 {
		for _, letter := range []string{"d", "f", "D", "F", "x", " ", "\x00"} {
			checkNoBridges(t, strings.Repeat(letter, n))
		}
	}
	for _, s := range []string{"DF", "FD", "DFDF", "dfDF", "DFdf", "dF", "fdD", "dfdfx", "xdfdf", "df df", "df\n", "dfdf\x00", "\u0164f", "d\u0166", impl.FlatStrip(maxSteps, maxSteps) + "d", "f" + impl.FlatStrip(maxSteps, maxSteps), strings.Repeat("fd", maxSteps) + "x"} {
		checkNoBridges(t, s)
	}
	// The bridge alone would be right, and with it the text would be a strip.
	checkNoBridge(t, "dx", bridgeOf(1, 2, "f"))
	checkNoBridge(t, "xf", bridgeOf(0, 1, "d"))
	checkNoBridge(t, "dDFf", bridgeOf(1, 3, "fd"))
	checkNoBridge(t, "dd", bridgeOf(0, 2, "fd"))
	checkNoBridge(t, "ff", bridgeOf(1, 2, "d"))
	checkNoBridge(t, "", bridgeOf(0, 2, "fd"))
	checkNoBridge(t, "", bridgeOf(0, 0, "df"))
	checkNoBridge(t, "", impl.Bridge{})
	checkBridgeCount(t, "", 0, 0, 0)
	checkBridgeCount(t, "", 0, 1, 0)
	checkBridgeCount(t, "dd", 0, 1, 0)
	checkBridgeCount(t, strings.Repeat("df", 100000), math.MinInt, math.MaxInt, 0)
}
