package tests

import (
	"fmt"
	"math"
	"runtime"
	"slices"
	"strings"
	"sync"
	"testing"

	"loop.example/g01304/impl"
)

// Promise 11: every function accepts all arguments without panicking and modifies none of them.

// These are numbers that neither depths nor places are told by, nor how many there are of them.
func badCountsOfDepths() []int {
	return []int{math.MinInt, math.MinInt + 1, -9, -2, -1, 0, 10, 11, 64, 65, 100, 256, 1 << 32, 1<<32 + 1, 1 << 62, math.MaxInt - 1, math.MaxInt}
}

// These are depths that pins with 4 of them do not have.
func badDepths() []int {
	return []int{math.MinInt, math.MinInt + 1, -64, -2, -1, 4, 5, 9, 63, 64, 65, 1 << 32, 1 << 62, math.MaxInt - 1, math.MaxInt}
}

func badMosts() []int {
	return []int{math.MinInt, math.MinInt + 1, -9, -2, -1, 10, 11, 100, 1 << 32, 1 << 62, math.MaxInt - 1, math.MaxInt}
}

func badPins() []impl.Pins {
	all := []impl.Pins{
		{}, {Depths: 4}, {Depths: 4, Cuts: [][]int{}}, {Depths: 4, Cuts: [][]int{nil}}, {Depths: 4, Cuts: [][]int{{}}}, {Depths: 4, Cuts: [][]int{{0, 2}, nil}}, {Depths: 4, Cuts: [][]int{{}, {1}}},
		pinsOf(4, slices.Repeat([]string{"0"}, mostPins+1)...), pinsOf(4, slices.Repeat([]string{"0"}, 100)...), pinsOf(4, slices.Repeat([]string{"0"}, 100000)...),
		pinsOf(4, "00"), pinsOf(4, "33"), pinsOf(4, "10"), pinsOf(4, "0221"), pinsOf(4, "021"), pinsOf(4, "0123", "0132"), pinsOf(4, "0123", "1", "20"), pinsOf(4, "01230"), pinsOf(4, "0", "011"),
		pinsOf(4, "01234"), pinsOf(4, "4", "1"), pinsOf(4, "02", "4"), pinsOf(1, "1"), pinsOf(1, "01"), pinsOf(9, "9"), pinsOf(9, "0123456789"), pinsOf(9, "0", "0", "0", "0", "0", "0", "9"),
		pinsOf(4, strings.Repeat("0", 100000)), pinsOf(4, strings.Repeat("0123", 20000)), {Depths: 9, Cuts: append(slices.Repeat([][]int{{8}}, mostPins-1), nil)},
	}
	for _, depths := range badCountsOfDepths() {
		all = append(all, impl.Pins{Depths: depths}, pinsOf(depths, "0"), pinsOf(depths, "02", "1"))
	}
	for _, depth := range badDepths() {
		all = append(all, impl.Pins{Depths: 4, Cuts: [][]int{{depth}}}, impl.Pins{Depths: 4, Cuts: [][]int{{0, 2}, {1, depth}}}, impl.Pins{Depths: 4, Cuts: [][]int{{depth, 2}, {1}}},
			impl.Pins{Depths: 4, Cuts: [][]int{{0}, {0}, {0}, {0}, {0}, {0}, {0, 1, depth, 3}}})
	}
	return all
}

func TestPromise11BadPins(t *testing.T) {
	for _, p := range badPins() {
		failsWithPins(t, p)
	}
	for _, p := range smallPins() {
		same(t, fmt.Sprint("ArePins ", p), impl.ArePins(p), true, true)
	}
}

// These are all lists of few numbers at one place, of which few are strictly increasing.
func TestPromise11PinsOfAllShortLists(t *testing.T) {
	for depths := 1; depths <= 4; depths++ {
		for length := range 5 {
			for _, list := range numberLists([]int{-1, 0, 1, 2, 3, 4}, length) {
				want := length > 0
				for i, depth := range list {
					want = want && depth >= 0 && depth < depths && (i == 0 || list[i-1] < depth)
				}
				for _, cuts := range [][][]int{{list}, {{0}, list}, {list, {0}}} {
					same(t, fmt.Sprint("ArePins ", depths, cuts), impl.ArePins(impl.Pins{Depths: depths, Cuts: cuts}), true, want)
				}
			}
		}
	}
}

func failsWithKey(t *testing.T, p impl.Pins, key string) {
	t.Helper()
	what := fmt.Sprintf("%v %.20q", p, key)
	is, ok := impl.IsKey(p, key)
	same(t, "IsKey "+what, is, ok, false)
	does, ok := impl.DoesOpen(p, key)
	fails(t, "DoesOpen "+what, does, ok)
}

// A key that opens no pins is one, but a text that is none opens nothing, and does not tell so either.
func TestPromise11BadKeys(t *testing.T) {
	for _, p := range []impl.Pins{pinsOf(5, "0", "0", "0"), pinsOf(5, "0123", "14", "0234"), wholeIn(5, 3)} {
		for _, key := range badCodes() {
			failsWithKey(t, p, key)
			failsAsSmooth(t, 5, 9, key[:len(key)/2]+"5"+key[len(key)/2:])
		}
	}
	for depths := 1; depths <= mostDepths; depths++ {
		for places := 1; places <= mostPins; places++ {
			p := wholeIn(depths, places)
			good := strings.Repeat("0", places)
			failsWithKey(t, p, good+"0")
			failsWithKey(t, p, good[1:])
			for place := range places {
				for _, letter := range []string{string(rune('0' + depths)), "9", "/", ":", "-", "+", " ", "a", "\x00", "\xff", "\n", "٠", "\u0130"} {
					key := good[:place] + letter + good[place+1:]
					failsWithKey(t, p, key)
					failsAsSmooth(t, depths, mostDepths, key)
					own, ok := impl.PinsOfKey(depths, key)
					failsPins(t, fmt.Sprintf("PinsOfKey %d %q", depths, key), own, ok)
				}
			}
		}
	}
}

func TestPromise11KeysOfNoPins(t *testing.T) {
	for _, key := range []string{"", "00000000", "88888888", strings.Repeat("0", 256), strings.Repeat("0", 100000), "9", "0009", "-1", "+1", "1 ", " 1", "0\n", "٠", "\x00", "\xff\xff"} {
		for depths := 1; depths <= mostDepths; depths++ {
			p, ok := impl.PinsOfKey(depths, key)
			failsPins(t, fmt.Sprintf("PinsOfKey %d %.20q", depths, key), p, ok)
			for most := range mostDepths + 1 {
				failsAsSmooth(t, depths, most, key)
			}
		}
	}
	for _, depths := range badCountsOfDepths() {
		for _, key := range []string{"", "0", "00", "1", "0000000", "9", "/", ":"} {
			p, ok := impl.PinsOfKey(depths, key)
			failsPins(t, fmt.Sprint("PinsOfKey ", depths, key), p, ok)
			failsAsSmooth(t, depths, mostDepths, key)
		}
	}
}

// These are all pins, but of other depths, or of other places.
func TestPromise11PinsOfOtherKinds(t *testing.T) {
	for depths := 1; depths <= mostDepths; depths++ {
		for places := 1; places <= mostPins; places++ {
			p := pinsOf(depths, slices.Repeat([]string{"0"}, places)...)
			if depths < mostDepths {
				failsAsPair(t, p, pinsOf(depths+1, slices.Repeat([]string{"0"}, places)...))
				failsAsPair(t, p, wholeIn(mostDepths, places))
			}
			if places < mostPins {
				failsAsPair(t, p, pinsOf(depths, slices.Repeat([]string{"0"}, places+1)...))
				failsAsPair(t, p, wholeIn(depths, mostPins))
			}
			list := slices.Repeat([]impl.Pins{p}, mostLocks)
			for i := range list {
				other := slices.Clone(list)
				other[i] = pinsOf(depths%mostDepths+1, slices.Repeat([]string{"0"}, places)...)
				failsWithList(t, other)
				other[i] = pinsOf(depths, slices.Repeat([]string{"0"}, places%mostPins+1)...)
				failsWithList(t, other)
			}
		}
	}
}

func TestPromise11ListsOfNoOrTooManyPins(t *testing.T) {
	failsWithList(t, nil)
	failsWithList(t, []impl.Pins{})
	failsWithList(t, make([]impl.Pins, 0, 9))
	for _, p := range []impl.Pins{pinsOf(1, "0"), pinsOf(4, "02", "1"), wholeIn(9, 7)} {
		for _, count := range []int{mostLocks + 1, mostLocks + 2, 100, 20000} {
			failsWithList(t, slices.Repeat([]impl.Pins{p}, count))
		}
		n, ok := impl.GhostKeys(slices.Repeat([]impl.Pins{p}, mostLocks))
		same(t, "GhostKeys of the most pins", n, ok, 0)
		master, ok := impl.MasterOf(slices.Repeat([]impl.Pins{p}, mostLocks))
		samePins(t, "MasterOf the most pins", master, ok, p)
	}
}

func failsToChange(t *testing.T, p impl.Pins, place int, depth int) {
	t.Helper()
	what := fmt.Sprint(p, place, depth)
	more, ok := impl.AddPin(p, place, depth)
	failsPins(t, "AddPin "+what, more, ok)
	left, ok := impl.TakePin(p, place, depth)
	failsPins(t, "TakePin "+what, left, ok)
}

func TestPromise11PlacesAndDepthsThatPinsDoNotHave(t *testing.T) {
	for places := 1; places <= mostPins; places++ {
		for _, digits := range []string{"0", "13", "0123"} {
			p := pinsOf(4, slices.Repeat([]string{digits}, places)...)
			for _, place := range []int{math.MinInt, math.MinInt + 1, -places, -1, places, places + 1, mostPins, mostPins + 1, 1 << 32, 1 << 62, math.MaxInt - 1, math.MaxInt} {
				for depth := -1; depth <= 4; depth++ {
					failsToChange(t, p, place, depth)
				}
				failsToChange(t, p, place, place)
			}
			for _, depth := range badDepths() {
				for place := range places {
					failsToChange(t, p, place, depth)
				}
			}
		}
	}
}

func TestPromise11BadMosts(t *testing.T) {
	for _, most := range badMosts() {
		for depths := 1; depths <= mostDepths; depths++ {
			for places := 1; places <= mostPins; places++ {
				failsWithSmooth(t, depths, places, most)
				failsAsSmooth(t, depths, most, strings.Repeat("0", places))
				n, ok := impl.SmoothKeys(wholeIn(depths, places), most)
				fails(t, fmt.Sprint("SmoothKeys ", depths, places, most), n, ok)
			}
		}
	}
}

func TestPromise11SmoothKeysOfNoKind(t *testing.T) {
	for most := range mostDepths + 1 {
		for _, depths := range badCountsOfDepths() {
			for places := range mostPins + 2 {
				failsWithSmooth(t, depths, places, most)
			}
			failsWithSmooth(t, depths, depths, most)
		}
		for _, places := range append(badCountsOfDepths(), 8, 9) {
			for depths := range mostDepths + 2 {
				failsWithSmooth(t, depths, places, most)
			}
		}
	}
}

func TestPromise11RanksOfSmoothKeysOutOfRange(t *testing.T) {
	for depths := 1; depths <= mostDepths; depths++ {
		for places := 1; places <= mostPins; places++ {
			for most := range mostDepths + 1 {
				count, _ := impl.CountSmooth(depths, places, most)
				for _, rank := range []int{math.MinInt, math.MinInt + 1, -count, -1, count, count + 1, 1 << 32, 1 << 62, math.MaxInt - 1, math.MaxInt} {
					key, ok := impl.SmoothOfRank(depths, places, most, rank)
					fails(t, fmt.Sprint("SmoothOfRank ", depths, places, most, rank), key, ok)
				}
			}
		}
	}
}

func TestPromise11BadTextsOfPins(t *testing.T) {
	bad := []string{
		"", "=", ",", "4", "4=", "=0", "=02,1", "4=,", "4=0,", "4=,0", "4=02,,1", "4=02,1,", ",4=02,1", "4==02,1", "4=02=1", "4=02,1=", "=4=02,1", "4,02,1", "4:02,1", "402,1", "4-02,1",
		"0=0", "0=", "10=0", "10=9", "-4=0", "+4=02,1", "04=02,1", "4 =02,1", "4= 02,1", "4=02 ,1", "4=02, 1", " 4=02,1", "4=02,1 ", "4=02,1\n", "\n4=02,1", "4=0 2,1", "4=02;1", "4=02.1",
		"4=20,1", "4=00,1", "4=02,11", "4=4", "4=02,4", "4=04,1", "1=1", "9=9", "9=0123456789", "4=0-2,1", "4=-0,1", "4=+0", "4=/", "4=0:", "4=0a", "a=0", "0x4=0", "4_=0", "4.0=0", "4e0=0",
		"4=0,0,0,0,0,0,0,0", "1=0,0,0,0,0,0,0,0", "4=0\x00", "4=\x00", "4=\xff", "4\x00=0", "4=٠", "٤=0", "4=\u0130", "4=０", "99999999999999999999=0", "18446744073709551620=0", "-18446744073709551612=0",
		strings.Repeat("4=0", 20000), "4=" + strings.Repeat("0", 100000), "4=" + strings.Repeat("0,", 100000) + "0", strings.Repeat("=", 100000), strings.Repeat(",", 100000), strings.Repeat("0", 100000) + "4=0",
	}
	for _, s := range bad {
		p, ok := impl.ParsePins(s)
		failsPins(t, fmt.Sprintf("ParsePins %.20q", s), p, ok)
	}
}

// A text with a letter more, less or changed is one of other pins, or of none.
func TestPromise11TextsNearThoseOfPins(t *testing.T) {
	for _, text := range []string{"4=02,1", "1=0", "9=012345678,8", "3=0,1,2,0,1,2,0"} {
		for i := range len(text) + 1 {
			for letter := range 256 {
				near := []string{text[:i] + string([]byte{byte(letter)}) + text[i:]}
				if i < len(text) {
					near = append(near, text[:i]+text[i+1:], text[:i]+string([]byte{byte(letter)})+text[i+1:])
				}
				for _, s := range near {
					p, ok := impl.ParsePins(s)
					if !ok {
						failsPins(t, fmt.Sprintf("ParsePins %q", s), p, ok)
						continue
					}
					same(t, fmt.Sprintf("ArePins of %q", s), impl.ArePins(p), ok, true)
					back, ok := impl.PinsText(p)
					same(t, "PinsText", back, ok, s)
				}
			}
		}
	}
}

// callKeys calls all functions of chapter 8, tells what they return, and spoils the lists, with the room behind them.
func callKeys(p impl.Pins, list []impl.Pins, key string, place int, depth int, most int) string {
	var told []any
	tell := func(results ...any) { told = append(told, results...) }
	tellNumber := func(number int, ok bool) { tell(number, ok) }
	tellIs := func(is bool, ok bool) { tell(is, ok) }
	tellText := func(text string, ok bool) { tell(text, ok) }
	tellTexts := func(texts []string, ok bool) {
		tell(slices.Clone(texts), ok)
		spoilTexts(texts)
	}
	tellPins := func(pins impl.Pins, ok bool) {
		tell(fmt.Sprint(pins), ok)
		spoilRows(pins.Cuts)
	}
	tell(impl.ArePins(p))
	tellIs(impl.IsKey(p, key))
	tellIs(impl.DoesOpen(p, key))
	tellNumber(impl.CountKeys(p))
	tellTexts(impl.AllKeys(p))
	tellPins(impl.PinsOfKey(depth, key))
	tellPins(impl.PinsOfKey(p.Depths, key))
	for _, q := range list {
		tellPins(impl.MasterPins(p, q))
		tellPins(impl.MasterPins(q, p))
	}
	tellTexts(impl.SharedKeys(list))
	tellNumber(impl.CountShared(list))
	tellNumber(impl.GhostKeys(list))
	tellPins(impl.MasterOf(list))
	tellPins(impl.AddPin(p, place, depth))
	tellPins(impl.TakePin(p, place, depth))
	tellNumber(impl.CountSmooth(depth, place, most))
	tellText(impl.SmoothOfRank(depth, place, most, most))
	tellText(impl.SmoothOfRank(p.Depths, len(key), most, place))
	tellNumber(impl.RankOfSmooth(p.Depths, most, key))
	tellNumber(impl.SmoothKeys(p, most))
	text, ok := impl.PinsText(p)
	tell(text, ok)
	tellPins(impl.ParsePins(text))
	return fmt.Sprint(told...)
}

// A roomyList has pins whose lists all have room behind them, in one list of numbers: the room of one is in the next ones.
type roomyList struct {
	list    []impl.Pins
	numbers []int
	places  [][]int
	room    []impl.Pins
}

func roomyOf(list []impl.Pins) roomyList {
	var r roomyList
	for _, p := range list {
		for _, cuts := range p.Cuts {
			r.numbers = append(append(r.numbers, cuts...), -7)
		}
	}
	at := 0
	for _, p := range list {
		for _, cuts := range p.Cuts {
			r.places = append(r.places, r.numbers[at:at+len(cuts)])
			at += len(cuts) + 1
		}
		r.places = append(r.places, []int{-8})
	}
	at = 0
	for _, p := range list {
		r.room = append(r.room, impl.Pins{Depths: p.Depths, Cuts: r.places[at : at+len(p.Cuts)]})
		at += len(p.Cuts) + 1
	}
	r.room = append(r.room, pinsOf(4, "0"), pinsOf(-1, "9"))
	r.list = r.room[:len(list)]
	return r
}

// told tells all that is in a roomyList, with what is behind the lists, and where their memory is.
func (r roomyList) told() string {
	told := fmt.Sprint(r.numbers, r.places, r.room, len(r.list), cap(r.list))
	for _, p := range r.list {
		for _, cuts := range p.Cuts {
			told += fmt.Sprint(len(cuts), cap(cuts))
		}
	}
	return told
}

func TestPromise11PinsAreLeftAlone(t *testing.T) {
	d := &drawn{last: 118}
	for depths := 1; depths <= mostDepths; depths++ {
		for places := 1; places <= mostPins; places++ {
			for count := 1; count <= mostLocks; count++ {
				list := d.listOfPins(depths, places, 1+count, count)
				key := strings.Repeat(string(rune('0'+d.below(depths))), places)
				place, depth, most := d.below(places), d.below(depths), d.below(mostDepths+1)
				what := fmt.Sprint(list, key)
				plain := copyOfList(list)
				want := callKeys(plain[0], plain, key, place, depth, most)
				r := roomyOf(list)
				before := r.told()
				same(t, "with room behind the lists "+what, callKeys(r.list[0], r.list, key, place, depth, most), true, want)
				same(t, "the same calls again "+what, callKeys(r.list[0], r.list, key, place, depth, most), true, want)
				same(t, "the lists "+what, r.told(), true, before)
				same(t, "the lists without room "+what, fmt.Sprint(plain), true, fmt.Sprint(list))
			}
		}
	}
}

func TestPromise11ListsThatAreNoPinsAreLeftAlone(t *testing.T) {
	good := pinsOf(4, "02", "1")
	for _, bad := range badPins() {
		if len(bad.Cuts) > 100 || len(bad.Cuts) > 0 && len(bad.Cuts[0]) > 100 {
			continue // the same as shorter ones, but for the time that it takes to tell them
		}
		for _, list := range [][]impl.Pins{{bad}, {good, bad, good}, {bad, good}} {
			r := roomyOf(list)
			before := r.told()
			callKeys(r.list[0], r.list, "01", 0, 1, 1)
			callKeys(r.list[len(list)-1], r.list, "01", 1, 0, 9)
			same(t, fmt.Sprint("the list ", list), r.told(), true, before)
		}
	}
}

// The same memory may be in a list more than once, and in all places of some pins.
func TestPromise11PinsThatShareMemory(t *testing.T) {
	cuts := []int{0, 2, 3}
	p := impl.Pins{Depths: 4, Cuts: [][]int{cuts, cuts, cuts[:2], cuts[1:]}}
	list := []impl.Pins{p, p, {Depths: 4, Cuts: p.Cuts}}
	apart := copyOfList(list)
	want := callKeys(apart[0], apart, "0230", 1, 1, 2)
	same(t, "pins that share memory", callKeys(p, list, "0230", 1, 1, 2), true, want)
	sameList(t, "the list", cuts, true, []int{0, 2, 3})
}

// sharesNothing spoils one place of pins after the other, and what is behind it, and expects the other ones to stay.
func sharesNothing(t *testing.T, what string, p impl.Pins) {
	t.Helper()
	for place, cuts := range p.Cuts {
		before := copyOfPins(p)
		_ = append(cuts, -99, -99, -99, -99)
		for i := range cuts {
			cuts[i] = -99
		}
		copy(before.Cuts[place], cuts)
		samePins(t, fmt.Sprint(what, " beside the place ", place), p, true, before)
	}
}

func TestPromise11NoTwoPlacesShareMemory(t *testing.T) {
	cuts := []int{0, 2, 3}
	shared := impl.Pins{Depths: 4, Cuts: [][]int{cuts, cuts, cuts}}
	makers := map[string]func() (impl.Pins, bool){
		"PinsOfKey":             func() (impl.Pins, bool) { return impl.PinsOfKey(4, "000") },
		"MasterPins":            func() (impl.Pins, bool) { return impl.MasterPins(shared, shared) },
		"MasterOf one":          func() (impl.Pins, bool) { return impl.MasterOf([]impl.Pins{shared}) },
		"MasterOf some":         func() (impl.Pins, bool) { return impl.MasterOf([]impl.Pins{shared, shared, shared}) },
		"AddPin":                func() (impl.Pins, bool) { return impl.AddPin(shared, 1, 1) },
		"TakePin":               func() (impl.Pins, bool) { return impl.TakePin(shared, 1, 2) },
		"TakePin the last":      func() (impl.Pins, bool) { return impl.TakePin(shared, 2, 3) },
		"ParsePins":             func() (impl.Pins, bool) { return impl.ParsePins("4=023,023,023") },
		"ParsePins single ones": func() (impl.Pins, bool) { return impl.ParsePins("4=0,0,0") },
	}
	for what, make := range makers {
		p, ok := make()
		want := copyOfPins(p)
		same(t, what, len(p.Cuts), ok, 3)
		sharesNothing(t, what, p)
		spoilRows(p.Cuts)
		sameList(t, what+" leaves the argument alone", cuts, true, []int{0, 2, 3})
		p, ok = make()
		samePins(t, what+" again", p, ok, want)
	}
}

func TestPromise11NilAndEmptyListsOfKeys(t *testing.T) {
	for _, p := range []impl.Pins{{}, {Depths: 4}, {Depths: 4, Cuts: [][]int{nil}}, {Depths: 4, Cuts: [][]int{{1}, nil}}} {
		empty := impl.Pins{Depths: p.Depths, Cuts: [][]int{}}
		for _, cuts := range p.Cuts {
			empty.Cuts = append(empty.Cuts, append([]int{}, cuts...))
		}
		same(t, fmt.Sprint("nil and empty lists ", p), callKeys(empty, []impl.Pins{}, "1", 0, 1, 1), true, callKeys(p, nil, "1", 0, 1, 1))
	}
}

func TestPromise11NothingPanicsWithKeys(t *testing.T) {
	all := append(badPins(), pinsOf(1, "0"), pinsOf(4, "02", "1"), pinsOf(4, "1", "03"), pinsOf(9, "8"), wholeIn(9, 7), wholeIn(4, 2))
	keys := append(badCodes(), "01", "21", "11", "8", "9", "0123456", "8888888", "00000000")
	numbers := append(append(badMosts(), badDepths()...), 0, 1, 2, 3, 4, 7, 8, 9)
	for i, p := range all {
		for k, number := range numbers {
			at := func(step int) int { return numbers[(i+k*step+step)%len(numbers)] }
			q := all[(i*7+k)%len(all)]
			if len(p.Cuts) > 100 || len(q.Cuts) > 100 || len(p.Cuts) > 0 && len(p.Cuts[0]) > 100 {
				q = p
			}
			callKeys(p, []impl.Pins{p, q}, keys[(i+k)%len(keys)], number, at(2), at(3))
			callKeys(p, []impl.Pins{q}, keys[(i*3+k*5)%len(keys)], at(5), number, number)
			impl.CountSmooth(number, at(7), at(11))
			impl.SmoothOfRank(number, at(7), at(11), at(13))
			impl.SmoothOfRank(4, 3, 2, number)
			impl.RankOfSmooth(number, at(7), keys[k%len(keys)])
		}
	}
}

// keyCalls are calls that end in all ways: with all keys, with some or none of them, and at once.
func keyCalls() map[string]func() {
	few, many := pinsOf(4, "02", "1"), wholeIn(9, 7)
	most := pinsOf(9, "01234567", "01245", "34567")
	return map[string]func(){
		"some keys":        func() { impl.AllKeys(few) },
		"the most keys":    func() { impl.AllKeys(most) },
		"one key":          func() { impl.AllKeys(pinsOf(1, "0")) },
		"too many keys":    func() { impl.AllKeys(many) },
		"no pins":          func() { impl.AllKeys(impl.Pins{}) },
		"shared keys":      func() { impl.SharedKeys([]impl.Pins{few, wholeIn(4, 2)}) },
		"no shared key":    func() { impl.SharedKeys([]impl.Pins{few, pinsOf(4, "1", "0123")}) },
		"one shared key":   func() { impl.SharedKeys([]impl.Pins{few, pinsOf(4, "12", "13")}) },
		"too many of them": func() { impl.SharedKeys([]impl.Pins{many, many}) },
		"no list":          func() { impl.SharedKeys(nil) },
		"ghosts":           func() { impl.GhostKeys([]impl.Pins{few, pinsOf(4, "1", "3")}) },
		"all functions":    func() { callKeys(few, []impl.Pins{few, few}, "01", 0, 1, 1) },
		"all that fail":    func() { callKeys(impl.Pins{}, nil, "", -1, -1, -1) },
	}
}

// One that has ended is counted for a moment yet, so that they are counted again and again before they count as left.
func TestPromise11NoGoroutineIsLeftByKeys(t *testing.T) {
	for what, call := range keyCalls() {
		before := runtime.NumGoroutine()
		for range 50 {
			call()
		}
		for tries := 0; runtime.NumGoroutine() > before && tries < 1000000; tries++ {
			runtime.Gosched()
		}
		if left := runtime.NumGoroutine() - before; left > 0 {
			t.Errorf("%s: %d goroutines are left", what, left)
		}
	}
}

// With one processor a goroutine that is not waited for may have had no turn to end when the call returns.
// One that has ended may seldom be counted yet, so that some calls out of many are let pass.
func TestPromise11GoroutinesOfKeysAreWaitedFor(t *testing.T) {
	defer runtime.GOMAXPROCS(runtime.GOMAXPROCS(1))
	for what, call := range keyCalls() {
		late := 0
		for range 40 {
			before := runtime.NumGoroutine()
			call()
			if runtime.NumGoroutine() > before {
				late++
			}
			for tries := 0; runtime.NumGoroutine() > before && tries < 1000; tries++ {
				runtime.Gosched()
			}
		}
		if late > 10 {
			t.Errorf("%s: goroutines went on behind %d of 40 calls", what, late)
		}
	}
}

// Which goroutine is ready first must not show: the same calls again and again, with one processor and with many, and at the same time.
func TestPromise11KeysAtTheSameTime(t *testing.T) {
	most := pinsOf(9, "01234567", "01245", "34567")
	list := []impl.Pins{most, wholeIn(9, 3)}
	call := func() string { return callKeys(most, list, "024", 1, 3, 2) }
	want := call()
	func() {
		defer runtime.GOMAXPROCS(runtime.GOMAXPROCS(1))
		for range 100 {
			same(t, "calls with one processor", call(), true, want)
		}
	}()
	told := make([]string, 16)
	var callers sync.WaitGroup
	for i := range told {
		callers.Go(func() {
			for range 20 {
				told[i] = call()
			}
		})
	}
	callers.Wait()
	for _, s := range told {
		same(t, "calls at the same time", s, true, want)
	}
}
