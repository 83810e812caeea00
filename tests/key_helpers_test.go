package tests

import (
	"fmt"
	"slices"
	"testing"

	"loop.example/g01304/impl"
)

// The helpers write all keys down, and look at each digit of each one: they multiply nothing, and they set no bits.

const (
	mostPins   = 7
	mostDepths = 9
	mostKeys   = 200
	mostLocks  = 6
)

// pinsOf makes pins of the depths at each place, told as digits.
func pinsOf(depths int, places ...string) impl.Pins {
	p := impl.Pins{Depths: depths}
	for _, digits := range places {
		var cuts []int
		for _, digit := range digits {
			cuts = append(cuts, int(digit-'0'))
		}
		p.Cuts = append(p.Cuts, cuts)
	}
	return p
}

func pinsWith(t *testing.T, s string) impl.Pins {
	t.Helper()
	p, ok := impl.ParsePins(s)
	if !ok {
		t.Fatalf("%q should be a text of pins", s)
	}
	return p
}

// depthsPicked returns all lists of at least one depth.
func depthsPicked(depths int) []string {
	picked := []string{""}
	for depth := range depths {
		for _, before := range picked {
			picked = append(picked, before+string(rune('0'+depth)))
		}
	}
	return picked[1:]
}

// allPins returns all pins of a kind.
func allPins(depths int, places int) []impl.Pins {
	lists := [][]string{nil}
	for range places {
		var longer [][]string
		for _, list := range lists {
			for _, digits := range depthsPicked(depths) {
				longer = append(longer, slices.Concat(list, []string{digits}))
			}
		}
		lists = longer
	}
	var all []impl.Pins
	for _, list := range lists {
		all = append(all, pinsOf(depths, list...))
	}
	return all
}

func smallPins() []impl.Pins {
	var all []impl.Pins
	for _, kind := range [][]int{{1, 1}, {1, 2}, {1, 7}, {2, 1}, {2, 2}, {2, 3}, {2, 4}, {3, 1}, {3, 2}, {3, 3}, {4, 1}, {4, 2}, {5, 1}, {9, 1}} {
		all = append(all, allPins(kind[0], kind[1])...)
	}
	return all
}

func wholeIn(depths int, places int) impl.Pins {
	return pinsOf(depths, slices.Repeat([]string{"012345678"[:depths]}, places)...)
}

// pins returns pins that are drawn: each depth is at each place as seldom as is told, but for one that is there anyway.
func (d *drawn) pins(depths int, places int, seldom int) impl.Pins {
	p := impl.Pins{Depths: depths}
	for range places {
		anyway := d.below(depths)
		var cuts []int
		for depth := range depths {
			if depth == anyway || d.below(seldom) == 0 {
				cuts = append(cuts, depth)
			}
		}
		p.Cuts = append(p.Cuts, cuts)
	}
	return p
}

func (d *drawn) listOfPins(depths int, places int, seldom int, count int) []impl.Pins {
	var list []impl.Pins
	for range count {
		list = append(list, d.pins(depths, places, seldom))
	}
	return list
}

func keysOfKind(depths int, places int) []string {
	return codesOf(lockOf(places, depths))
}

func opens(p impl.Pins, key string) bool {
	for place, cuts := range p.Cuts {
		if !slices.Contains(cuts, int(key[place]-'0')) {
			return false
		}
	}
	return true
}

// openingAll returns the keys that open all pins of a list.
func openingAll(list []impl.Pins, keys []string) []string {
	var opening []string
	for _, key := range keys {
		if !slices.ContainsFunc(list, func(p impl.Pins) bool { return !opens(p, key) }) {
			opening = append(opening, key)
		}
	}
	return opening
}

// openingNone returns the keys that open no pins of a list.
func openingNone(list []impl.Pins, keys []string) []string {
	var closed []string
	for _, key := range keys {
		if !slices.ContainsFunc(list, func(p impl.Pins) bool { return opens(p, key) }) {
			closed = append(closed, key)
		}
	}
	return closed
}

func masterIn(list []impl.Pins) impl.Pins {
	master := impl.Pins{Depths: list[0].Depths}
	for place := range list[0].Cuts {
		var cuts []int
		for _, p := range list {
			cuts = append(cuts, p.Cuts[place]...)
		}
		slices.Sort(cuts)
		master.Cuts = append(master.Cuts, slices.Compact(cuts))
	}
	return master
}

func isSmooth(key string, most int) bool {
	for i := range len(key) - 1 {
		if step := int(key[i+1]) - int(key[i]); step > most || -step > most {
			return false
		}
	}
	return true
}

// smoothIn returns all smooth keys in order: it makes smooth ones longer, as long as they stay so.
func smoothIn(depths int, places int, most int) []string {
	keys := []string{""}
	for range places {
		var longer []string
		for _, key := range keys {
			for depth := range depths {
				if next := key + string(rune('0'+depth)); isSmooth(next[max(0, len(next)-2):], most) {
					longer = append(longer, next)
				}
			}
		}
		keys = longer
	}
	return keys
}

// countedSmooth counts the smooth keys from a place on, one by one: no key is written down, so that there may be millions.
func countedSmooth(p impl.Pins, place int, before int, most int) int {
	if place == len(p.Cuts) {
		return 1
	}
	count := 0
	for _, depth := range p.Cuts[place] {
		if place == 0 || depth-before <= most && before-depth <= most {
			count += countedSmooth(p, place+1, depth, most)
		}
	}
	return count
}

func smoothAmong(keys []string, most int) int {
	count := 0
	for _, key := range keys {
		if isSmooth(key, most) {
			count++
		}
	}
	return count
}

// withDepth returns the pins with a depth more or less at a place.
func withDepth(p impl.Pins, place int, depth int) impl.Pins {
	changed := copyOfPins(p)
	cuts := changed.Cuts[place]
	if i := slices.Index(cuts, depth); i >= 0 {
		changed.Cuts[place] = slices.Delete(cuts, i, i+1)
		return changed
	}
	changed.Cuts[place] = append(cuts, depth)
	slices.Sort(changed.Cuts[place])
	return changed
}

func copyOfPins(p impl.Pins) impl.Pins {
	c := impl.Pins{Depths: p.Depths}
	for _, cuts := range p.Cuts {
		c.Cuts = append(c.Cuts, slices.Clone(cuts))
	}
	return c
}

func copyOfList(list []impl.Pins) []impl.Pins {
	var c []impl.Pins
	for _, p := range list {
		c = append(c, copyOfPins(p))
	}
	return c
}

func equalPins(a impl.Pins, b impl.Pins) bool {
	return a.Depths == b.Depths && slices.EqualFunc(a.Cuts, b.Cuts, slices.Equal[[]int])
}

func samePins(t *testing.T, what string, got impl.Pins, ok bool, want impl.Pins) {
	t.Helper()
	if !ok || !equalPins(got, want) {
		t.Errorf("%s: got %v, %v, want %v", what, got, ok, want)
	}
}

func failsPins(t *testing.T, what string, got impl.Pins, ok bool) {
	t.Helper()
	if ok || !equalPins(got, impl.Pins{}) {
		t.Errorf("%s: got %v, %v, should fail with zero pins", what, got, ok)
	}
}

// sameKeys checks lists of keys, which are told as long as there are not too many of them.
func sameKeys(t *testing.T, what string, got []string, ok bool, want []string) {
	t.Helper()
	if len(want) > mostKeys {
		failsList(t, what, got, ok)
		return
	}
	sameList(t, what, got, ok, want)
}

// samePinsList compares all that is told of a list with what all keys of its kind tell.
func samePinsList(t *testing.T, list []impl.Pins) {
	t.Helper()
	what := fmt.Sprint(list)
	all := keysOfKind(list[0].Depths, len(list[0].Cuts))
	shared := openingAll(list, all)
	keys, ok := impl.SharedKeys(list)
	sameKeys(t, "SharedKeys "+what, keys, ok, shared)
	n, ok := impl.CountShared(list)
	same(t, "CountShared "+what, n, ok, len(shared))
	want := masterIn(list)
	master, ok := impl.MasterOf(list)
	samePins(t, "MasterOf "+what, master, ok, want)
	ghosts := openingNone(list, openingAll([]impl.Pins{want}, all))
	n, ok = impl.GhostKeys(list)
	same(t, "GhostKeys "+what, n, ok, len(ghosts))
}

// failsWithPins calls all functions that require pins, with all else as it should be, and expects each one to fail.
func failsWithPins(t *testing.T, p impl.Pins) {
	t.Helper()
	what := fmt.Sprintf("%.80s", fmt.Sprint(p))
	same(t, "ArePins "+what, impl.ArePins(p), true, false)
	for _, key := range []string{"", "0", "1", "00", "01", "0000000"} {
		is, ok := impl.IsKey(p, key)
		fails(t, "IsKey "+what+" "+key, is, ok)
		is, ok = impl.DoesOpen(p, key)
		fails(t, "DoesOpen "+what+" "+key, is, ok)
	}
	n, ok := impl.CountKeys(p)
	fails(t, "CountKeys "+what, n, ok)
	keys, ok := impl.AllKeys(p)
	failsList(t, "AllKeys "+what, keys, ok)
	for depth := range 3 {
		more, ok := impl.AddPin(p, 0, depth)
		failsPins(t, "AddPin "+what, more, ok)
		left, ok := impl.TakePin(p, 0, depth)
		failsPins(t, "TakePin "+what, left, ok)
	}
	for _, most := range []int{0, 1, mostDepths} {
		n, ok = impl.SmoothKeys(p, most)
		fails(t, "SmoothKeys "+what, n, ok)
	}
	text, ok := impl.PinsText(p)
	fails(t, "PinsText "+what, text, ok)
	failsWithLists(t, p)
}

// failsWithLists expects pins to spoil each list of pins that has them.
func failsWithLists(t *testing.T, p impl.Pins) {
	t.Helper()
	good := pinsOf(4, "02", "1")
	failsAsPair(t, p, good)
	failsAsPair(t, p, p)
	failsWithList(t, []impl.Pins{p})
	failsWithList(t, []impl.Pins{good, good, good, good, good, p})
}

func failsAsPair(t *testing.T, p impl.Pins, q impl.Pins) {
	t.Helper()
	for _, pair := range [][]impl.Pins{{p, q}, {q, p}} {
		master, ok := impl.MasterPins(pair[0], pair[1])
		failsPins(t, fmt.Sprintf("MasterPins %.80s", fmt.Sprint(pair)), master, ok)
		failsWithList(t, pair)
		failsWithList(t, []impl.Pins{pair[0], pair[1], pair[1]})
	}
}

// failsWithList calls all functions that require a list of pins, and expects each one to fail.
func failsWithList(t *testing.T, list []impl.Pins) {
	t.Helper()
	what := fmt.Sprintf("%d %.80s", len(list), fmt.Sprint(list))
	keys, ok := impl.SharedKeys(list)
	failsList(t, "SharedKeys "+what, keys, ok)
	n, ok := impl.CountShared(list)
	fails(t, "CountShared "+what, n, ok)
	n, ok = impl.GhostKeys(list)
	fails(t, "GhostKeys "+what, n, ok)
	master, ok := impl.MasterOf(list)
	failsPins(t, "MasterOf "+what, master, ok)
}

// failsWithSmooth calls all functions that require depths, places and a number most, and expects each one to fail.
func failsWithSmooth(t *testing.T, depths int, places int, most int) {
	t.Helper()
	what := fmt.Sprint(depths, places, most)
	n, ok := impl.CountSmooth(depths, places, most)
	fails(t, "CountSmooth "+what, n, ok)
	for rank := range 3 {
		key, ok := impl.SmoothOfRank(depths, places, most, rank)
		fails(t, "SmoothOfRank "+what, key, ok)
	}
}

func failsAsSmooth(t *testing.T, depths int, most int, key string) {
	t.Helper()
	n, ok := impl.RankOfSmooth(depths, most, key)
	fails(t, fmt.Sprintf("RankOfSmooth %d %d %.20q", depths, most, key), n, ok)
}
