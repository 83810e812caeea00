package tests

import (
	"fmt"
	"slices"
	"strings"
	"testing"

	"loop.example/g01304/impl"
)

// Promise 8: masters are opened by all keys of their pins, and smooth keys are ranked in order.

func TestPromise8Example(t *testing.T) {
	p := pinsWith(t, "4=02,1")
	samePins(t, "ParsePins", p, true, impl.Pins{Depths: 4, Cuts: [][]int{{0, 2}, {1}}})
	keys, ok := impl.AllKeys(p)
	sameList(t, "AllKeys", keys, ok, []string{"01", "21"})
	low, high := pinsWith(t, "4=0,1"), pinsWith(t, "4=2,3")
	master, ok := impl.MasterPins(low, high)
	samePins(t, "MasterPins", master, ok, pinsOf(4, "02", "13"))
	text, ok := impl.PinsText(master)
	same(t, "PinsText", text, ok, "4=02,13")
	n, ok := impl.CountKeys(master)
	same(t, "CountKeys", n, ok, 4)
	n, ok = impl.GhostKeys([]impl.Pins{low, high})
	same(t, "GhostKeys", n, ok, 2)
	n, ok = impl.CountSmooth(3, 2, 1)
	same(t, "CountSmooth", n, ok, 7)
	for rank, want := range []string{"00", "01", "10", "11", "12", "21", "22"} {
		key, ok := impl.SmoothOfRank(3, 2, 1, rank)
		same(t, "SmoothOfRank", key, ok, want)
	}
	n, ok = impl.RankOfSmooth(3, 1, "12")
	same(t, "RankOfSmooth", n, ok, 4)
}

func TestPromise8Limits(t *testing.T) {
	same(t, "MaxPins", impl.MaxPins, true, 7)
	same(t, "MaxDepths", impl.MaxDepths, true, 9)
	same(t, "MaxKeys", impl.MaxKeys, true, 200)
	same(t, "MaxLocks", impl.MaxLocks, true, 6)
}

func TestPromise8KeysOfSmallPins(t *testing.T) {
	for _, p := range smallPins() {
		what := fmt.Sprint(p)
		same(t, "ArePins "+what, impl.ArePins(p), true, true)
		all := keysOfKind(p.Depths, len(p.Cuts))
		opening := openingAll([]impl.Pins{p}, all)
		for _, key := range all {
			is, ok := impl.IsKey(p, key)
			same(t, "IsKey "+what+key, is, ok, true)
			does, ok := impl.DoesOpen(p, key)
			same(t, "DoesOpen "+what+key, does, ok, slices.Contains(opening, key))
		}
		n, ok := impl.CountKeys(p)
		same(t, "CountKeys "+what, n, ok, len(opening))
		keys, ok := impl.AllKeys(p)
		sameKeys(t, "AllKeys "+what, keys, ok, opening)
		for most := range mostDepths + 1 {
			n, ok = impl.SmoothKeys(p, most)
			same(t, fmt.Sprint("SmoothKeys ", what, most), n, ok, smoothAmong(opening, most))
		}
	}
}

func TestPromise8KeysOfDrawnPins(t *testing.T) {
	d := &drawn{last: 8}
	for depths := 1; depths <= mostDepths; depths++ {
		for places := 1; places <= 4; places++ {
			all := keysOfKind(depths, places)
			for seldom := 1; seldom <= 5; seldom++ {
				p := d.pins(depths, places, seldom)
				opening := openingAll([]impl.Pins{p}, all)
				keys, ok := impl.AllKeys(p)
				sameKeys(t, fmt.Sprint("AllKeys ", p), keys, ok, opening)
				most := d.below(mostDepths + 1)
				n, ok := impl.SmoothKeys(p, most)
				same(t, fmt.Sprint("SmoothKeys ", p, most), n, ok, smoothAmong(opening, most))
				key := d.codeOf(all)
				does, ok := impl.DoesOpen(p, key)
				same(t, fmt.Sprint("DoesOpen ", p, key), does, ok, slices.Contains(opening, key))
			}
		}
	}
}

// These are texts that are like keys, of pins and of others.
func TestPromise8TextsThatAreNoKeys(t *testing.T) {
	for depths := 1; depths <= mostDepths; depths++ {
		for places := 1; places <= mostPins; places++ {
			p := wholeIn(depths, places)
			for length := range mostPins + 3 {
				for _, digit := range []string{"0", string(rune('0' + depths - 1)), string(rune('0' + depths))} {
					key := strings.Repeat(digit, length)
					want := length == places && int(digit[0]-'0') < depths
					is, ok := impl.IsKey(p, key)
					same(t, fmt.Sprint("IsKey ", p, key), is, ok, want)
				}
			}
		}
	}
}

// Just as many keys as there may be are told, and no more.
func TestPromise8MostKeys(t *testing.T) {
	just := pinsOf(9, "01234567", "01245", "34567")
	keys, ok := impl.AllKeys(just)
	sameList(t, "AllKeys", keys, ok, openingAll([]impl.Pins{just}, keysOfKind(9, 3)))
	same(t, "MaxKeys", len(keys), ok, mostKeys)
	shared, ok := impl.SharedKeys([]impl.Pins{just, wholeIn(9, 3), just})
	sameList(t, "SharedKeys", shared, ok, keys)
	for text, want := range map[string]int{
		"9=01234567,12345,12345": 200, "8=0,1,01234567,2,34567,3,02467": 200, "9=0123456,012345,01234": 210, "9=0123456,0123456,0123": 196, "5=01234,01,01234,0123": 200,
		"6=012345,012345,012345": 216, "2=01,01,01,01,01,01,01": 128, "3=012,012,012,012,012": 243, "9=012345678,012345678,012": 243, "9=012345678,0123456,012": 189,
		"9=012345678,012345678,012345678,012345678,012345678,012345678,012345678": 4782969,
	} {
		p := pinsWith(t, text)
		n, ok := impl.CountKeys(p)
		same(t, "CountKeys "+text, n, ok, want)
		n, ok = impl.CountShared([]impl.Pins{p, p})
		same(t, "CountShared "+text, n, ok, want)
		keys, ok := impl.AllKeys(p)
		shared, fine := impl.SharedKeys([]impl.Pins{p, p})
		if want > mostKeys {
			failsList(t, "AllKeys "+text, keys, ok)
			failsList(t, "SharedKeys "+text, shared, fine)
			continue
		}
		same(t, "AllKeys "+text, len(keys), ok, want)
		same(t, "AllKeys in order "+text, slices.IsSorted(keys), ok, true)
		same(t, "AllKeys at once "+text, len(slices.Compact(keys)), ok, want)
		same(t, "SharedKeys "+text, len(shared), fine, want)
	}
}

// A list may be told of where single pins of it have too many keys to be told.
func TestPromise8FewSharedKeysOfMany(t *testing.T) {
	whole := wholeIn(9, 7)
	key := pinsOf(9, "0", "8", "1", "7", "2", "6", "3")
	keys, ok := impl.SharedKeys([]impl.Pins{whole, key, whole})
	sameList(t, "SharedKeys", keys, ok, []string{"0817263"})
	n, ok := impl.CountShared([]impl.Pins{whole, whole})
	same(t, "CountShared", n, ok, 4782969)
	evens, odds := pinsOf(9, slices.Repeat([]string{"02468"}, 7)...), pinsOf(9, slices.Repeat([]string{"1357"}, 7)...)
	keys, ok = impl.SharedKeys([]impl.Pins{evens, odds})
	sameList(t, "SharedKeys", keys, ok, nil)
	n, ok = impl.CountShared([]impl.Pins{evens, odds})
	same(t, "CountShared", n, ok, 0)
	master, ok := impl.MasterPins(odds, evens)
	samePins(t, "MasterPins", master, ok, whole)
	n, ok = impl.GhostKeys([]impl.Pins{evens, odds})
	same(t, "GhostKeys", n, ok, 4782969-78125-16384)
	n, ok = impl.GhostKeys([]impl.Pins{evens, odds, whole})
	same(t, "GhostKeys of the whole ones", n, ok, 0)
}

// Two pins that differ at one place have no keys in common where they have no depth in common there.
func TestPromise8OnePlaceWithoutCommonDepths(t *testing.T) {
	for places := 1; places <= mostPins; places++ {
		for place := range places {
			a, b := slices.Repeat([]string{"01"}, places), slices.Repeat([]string{"01"}, places)
			a[place], b[place] = "0", "12"
			list := []impl.Pins{pinsOf(3, a...), pinsOf(3, b...)}
			keys, ok := impl.SharedKeys(list)
			sameList(t, fmt.Sprint("SharedKeys ", list), keys, ok, nil)
			samePinsList(t, list)
		}
	}
}

func TestPromise8PairsOfPins(t *testing.T) {
	for _, kind := range [][]int{{1, 1}, {1, 3}, {2, 1}, {2, 2}, {2, 3}, {3, 1}, {3, 2}, {4, 1}} {
		all := allPins(kind[0], kind[1])
		for _, p := range all {
			for _, q := range all {
				list := []impl.Pins{p, q}
				samePinsList(t, list)
				master, ok := impl.MasterPins(p, q)
				samePins(t, fmt.Sprint("MasterPins ", list), master, ok, masterIn(list))
			}
		}
	}
}

func TestPromise8ListsOfPins(t *testing.T) {
	d := &drawn{last: 88}
	for depths := 1; depths <= mostDepths; depths++ {
		for places := 1; places <= 3; places++ {
			for count := 1; count <= mostLocks; count++ {
				for seldom := 1; seldom <= 4; seldom++ {
					list := d.listOfPins(depths, places, seldom, count)
					samePinsList(t, list)
					samePinsList(t, append(copyOfList(list[1:]), list[0]))
				}
			}
		}
	}
	for _, kind := range [][]int{{2, 7}, {3, 7}, {4, 6}, {7, 4}, {9, 4}} {
		for count := 1; count <= mostLocks; count++ {
			samePinsList(t, d.listOfPins(kind[0], kind[1], 2, count))
			samePinsList(t, d.listOfPins(kind[0], kind[1], 3, count))
		}
	}
}

func TestPromise8ListsOfOneLock(t *testing.T) {
	for _, p := range smallPins() {
		what := fmt.Sprint(p)
		list := []impl.Pins{p}
		master, ok := impl.MasterOf(list)
		samePins(t, "MasterOf "+what, master, ok, p)
		n, ok := impl.GhostKeys(list)
		same(t, "GhostKeys "+what, n, ok, 0)
		keys, ok := impl.SharedKeys(list)
		sameKeys(t, "SharedKeys "+what, keys, ok, openingAll(list, keysOfKind(p.Depths, len(p.Cuts))))
	}
}

// What is in a list again changes nothing.
func TestPromise8SamePinsAgain(t *testing.T) {
	for _, p := range allPins(3, 2) {
		for count := 2; count <= mostLocks; count++ {
			list := slices.Repeat([]impl.Pins{p}, count)
			samePinsList(t, list)
			n, ok := impl.GhostKeys(list)
			same(t, fmt.Sprint("GhostKeys ", list), n, ok, 0)
			master, ok := impl.MasterOf(list)
			samePins(t, fmt.Sprint("MasterOf ", list), master, ok, p)
		}
		master, ok := impl.MasterPins(p, p)
		samePins(t, fmt.Sprint("MasterPins ", p), master, ok, p)
		samePinsList(t, []impl.Pins{p, pinsOf(3, "1", "02"), p, pinsOf(3, "12", "0"), pinsOf(3, "1", "02"), p})
	}
}

func TestPromise8MastersAreOpenedByAllKeys(t *testing.T) {
	d := &drawn{last: 5}
	for depths := 1; depths <= mostDepths; depths++ {
		for places := 1; places <= mostPins; places++ {
			list := d.listOfPins(depths, places, 4, mostLocks)
			master, ok := impl.MasterOf(list)
			samePins(t, fmt.Sprint("MasterOf ", list), master, ok, masterIn(list))
			for _, p := range list {
				keys, _ := impl.AllKeys(p)
				for _, key := range keys {
					does, ok := impl.DoesOpen(master, key)
					same(t, fmt.Sprint("DoesOpen ", master, key), does, ok, true)
				}
			}
		}
	}
}

// Locks that one key alone opens each have a master that many ghosts open.
func TestPromise8GhostsOfSingleKeys(t *testing.T) {
	for places := 1; places <= mostPins; places++ {
		var list []impl.Pins
		whole := 0
		for depth := range mostLocks {
			list = append(list, pinsOf(9, slices.Repeat([]string{string(rune('0' + depth))}, places)...))
			whole = len(keysOfKind(depth+1, places))
			n, ok := impl.GhostKeys(list)
			same(t, fmt.Sprint("GhostKeys ", list), n, ok, whole-len(list))
		}
	}
}

func TestPromise8PinsOfKeys(t *testing.T) {
	for depths := 1; depths <= mostDepths; depths++ {
		for places := 1; places <= 3; places++ {
			for _, key := range keysOfKind(depths, places) {
				p, ok := impl.PinsOfKey(depths, key)
				samePins(t, fmt.Sprint("PinsOfKey ", depths, key), p, ok, pinsOf(depths, strings.Split(key, "")...))
			}
		}
	}
	for _, key := range []string{"0", "00000", "8765432", "0123456", "8888888", "0000000", "080808"} {
		p, ok := impl.PinsOfKey(9, key)
		samePins(t, "PinsOfKey "+key, p, ok, pinsOf(9, strings.Split(key, "")...))
		keys, ok := impl.AllKeys(p)
		sameList(t, "AllKeys of them", keys, ok, []string{key})
	}
	p, ok := impl.PinsOfKey(1, "0000000")
	samePins(t, "PinsOfKey 1", p, ok, pinsOf(1, "0", "0", "0", "0", "0", "0", "0"))
}

func TestPromise8PinsPutInAndTakenOut(t *testing.T) {
	for _, p := range smallPins() {
		for place, cuts := range p.Cuts {
			for depth := range p.Depths {
				what := fmt.Sprint(p, place, depth)
				more, ok := impl.AddPin(p, place, depth)
				left, fine := impl.TakePin(p, place, depth)
				if !slices.Contains(cuts, depth) {
					samePins(t, "AddPin "+what, more, ok, withDepth(p, place, depth))
					failsPins(t, "TakePin "+what, left, fine)
					back, ok := impl.TakePin(more, place, depth)
					samePins(t, "TakePin again "+what, back, ok, p)
					continue
				}
				failsPins(t, "AddPin "+what, more, ok)
				if len(cuts) == 1 {
					failsPins(t, "TakePin "+what, left, fine)
					continue
				}
				samePins(t, "TakePin "+what, left, fine, withDepth(p, place, depth))
				back, ok := impl.AddPin(left, place, depth)
				samePins(t, "AddPin again "+what, back, ok, p)
			}
		}
	}
}

// All depths are put in, one after the other, and taken out again, up to the last one.
func TestPromise8MostPinsPutIn(t *testing.T) {
	p, ok := impl.PinsOfKey(mostDepths, "4444444")
	for place := range mostPins {
		for _, depth := range []int{8, 0, 7, 1, 6, 2, 5, 3} {
			p, ok = impl.AddPin(p, place, depth)
			same(t, fmt.Sprint("AddPin ", place, depth), ok, true, true)
		}
		full, fine := impl.AddPin(p, place, 4)
		failsPins(t, "AddPin 4", full, fine)
	}
	samePins(t, "all pins", p, ok, wholeIn(mostDepths, mostPins))
	for place := mostPins - 1; place >= 0; place-- {
		for _, depth := range []int{3, 4, 5, 2, 6, 1, 7, 0} {
			p, ok = impl.TakePin(p, place, depth)
			same(t, fmt.Sprint("TakePin ", place, depth), ok, true, true)
		}
		none, fine := impl.TakePin(p, place, 8)
		failsPins(t, "TakePin 8", none, fine)
	}
	samePins(t, "the last pins", p, ok, pinsOf(9, "8", "8", "8", "8", "8", "8", "8"))
}

// sameSmooth checks all smooth keys of some depths and places, but at most about many of their ranks.
func sameSmooth(t *testing.T, depths int, places int, most int, many int) {
	t.Helper()
	what := fmt.Sprint(depths, places, most)
	want := smoothIn(depths, places, most)
	n, ok := impl.CountSmooth(depths, places, most)
	same(t, "CountSmooth "+what, n, ok, len(want))
	n, ok = impl.SmoothKeys(wholeIn(depths, places), most)
	same(t, "SmoothKeys "+what, n, ok, len(want))
	ranks := []int{0, len(want) / 2, len(want) - 1}
	for rank := 0; rank < len(want); rank += 1 + len(want)/many {
		ranks = append(ranks, rank)
	}
	for _, rank := range ranks {
		key, ok := impl.SmoothOfRank(depths, places, most, rank)
		same(t, fmt.Sprint("SmoothOfRank ", what, rank), key, ok, want[rank])
		n, ok := impl.RankOfSmooth(depths, most, want[rank])
		same(t, fmt.Sprint("RankOfSmooth ", what, want[rank]), n, ok, rank)
	}
	for _, rank := range []int{len(want), len(want) + 1, -1, -len(want)} {
		key, ok := impl.SmoothOfRank(depths, places, most, rank)
		fails(t, fmt.Sprint("SmoothOfRank ", what, rank), key, ok)
	}
}

func TestPromise8SmoothKeysInOrder(t *testing.T) {
	for depths := 1; depths <= mostDepths; depths++ {
		for places := 1; places <= 5; places++ {
			for most := range mostDepths + 1 {
				sameSmooth(t, depths, places, most, 800)
			}
		}
		for places := 6; places <= mostPins; places++ {
			for most := range 3 {
				sameSmooth(t, depths, places, most, 200)
			}
		}
	}
}

func TestPromise8SmoothKeysCounted(t *testing.T) {
	d := &drawn{last: 33}
	for depths := 1; depths <= mostDepths; depths++ {
		for places := 1; places <= mostPins; places++ {
			whole := wholeIn(depths, places)
			for most := range mostDepths + 1 {
				n, ok := impl.CountSmooth(depths, places, most)
				same(t, fmt.Sprint("CountSmooth ", depths, places, most), n, ok, countedSmooth(whole, 0, 0, most))
				p := d.pins(depths, places, 2)
				n, ok = impl.SmoothKeys(p, most)
				same(t, fmt.Sprint("SmoothKeys ", p, most), n, ok, countedSmooth(p, 0, 0, most))
			}
		}
	}
}

// Each key of small kinds is smooth and has a rank, or it is not and has none.
func TestPromise8RanksOfAllKeys(t *testing.T) {
	for depths := 1; depths <= 5; depths++ {
		for places := 1; places <= 4; places++ {
			for most := range depths + 1 {
				before := 0
				for _, key := range keysOfKind(depths, places) {
					n, ok := impl.RankOfSmooth(depths, most, key)
					if !isSmooth(key, most) {
						fails(t, fmt.Sprint("RankOfSmooth ", depths, most, key), n, ok)
						continue
					}
					same(t, fmt.Sprint("RankOfSmooth ", depths, most, key), n, ok, before)
					before++
				}
			}
		}
	}
}

// Where most is 0 all digits are the same, and where it is at least the greatest depth all keys are smooth.
func TestPromise8LeastAndGreatestMost(t *testing.T) {
	for depths := 1; depths <= mostDepths; depths++ {
		for places := 1; places <= mostPins; places++ {
			n, ok := impl.CountSmooth(depths, places, 0)
			same(t, fmt.Sprint("CountSmooth 0 ", depths, places), n, ok, depths)
			for depth := range depths {
				key, ok := impl.SmoothOfRank(depths, places, 0, depth)
				same(t, fmt.Sprint("SmoothOfRank 0 ", depths, places, depth), key, ok, strings.Repeat(string(rune('0'+depth)), places))
			}
			all := 1
			for range places {
				all *= depths
			}
			for most := depths - 1; most <= mostDepths; most++ {
				n, ok := impl.CountSmooth(depths, places, most)
				same(t, fmt.Sprint("CountSmooth ", depths, places, most), n, ok, all)
				last := strings.Repeat(string(rune('0'+depths-1)), places)
				key, ok := impl.SmoothOfRank(depths, places, most, all-1)
				same(t, fmt.Sprint("SmoothOfRank ", depths, places, most, all-1), key, ok, last)
				n, ok = impl.RankOfSmooth(depths, most, last)
				same(t, fmt.Sprint("RankOfSmooth ", depths, most, last), n, ok, all-1)
				key, ok = impl.SmoothOfRank(depths, places, most, all)
				fails(t, fmt.Sprint("SmoothOfRank ", depths, places, most, all), key, ok)
			}
		}
	}
}

// Of the greatest kind, by turns through all ranks and back: there are too many keys to write all of them down.
func TestPromise8RanksOfTheGreatestKind(t *testing.T) {
	for most := 2; most <= mostDepths; most++ {
		count, ok := impl.CountSmooth(mostDepths, mostPins, most)
		same(t, "CountSmooth", ok, true, true)
		before := ""
		for rank := 0; rank < count; rank += 1 + count/300 {
			what := fmt.Sprint(most, rank)
			key, ok := impl.SmoothOfRank(mostDepths, mostPins, most, rank)
			same(t, "SmoothOfRank "+what, len(key), ok, mostPins)
			same(t, "smooth "+what, isSmooth(key, most), ok, true)
			same(t, "in order "+what, before < key, ok, true)
			n, ok := impl.RankOfSmooth(mostDepths, most, key)
			same(t, "RankOfSmooth "+what, n, ok, rank)
			before = key
		}
	}
}

func TestPromise8SmoothKeysOfLockedPins(t *testing.T) {
	cases := []struct {
		text       string
		most, want int
	}{
		{"9=0,8", 7, 0}, {"9=0,8", 8, 1}, {"9=0,8", 9, 1}, {"9=4", 0, 1}, {"9=012345678", 0, 9}, {"9=012345678", 9, 9}, {"4=02,1", 0, 0}, {"4=02,1", 1, 2},
		{"4=03,03,03,03,03,03,03", 0, 2}, {"4=03,03,03,03,03,03,03", 2, 2}, {"4=03,03,03,03,03,03,03", 3, 128}, {"9=0,1,2,3,4,5,6", 1, 1}, {"9=0,1,2,3,4,5,7", 1, 0},
		{"9=0,1,2,3,4,5,7", 2, 1}, {"9=8,6,4,2,0", 2, 1}, {"9=8,6,4,2,0", 1, 0}, {"3=0,02,0", 1, 1}, {"3=0,02,0", 2, 2}, {"1=0,0,0,0,0,0,0", 0, 1},
	}
	for _, c := range cases {
		n, ok := impl.SmoothKeys(pinsWith(t, c.text), c.most)
		same(t, fmt.Sprint("SmoothKeys ", c.text, c.most), n, ok, c.want)
	}
	d := &drawn{last: 21}
	for places := 5; places <= mostPins; places++ {
		all := keysOfKind(4, places)
		for seldom := 1; seldom <= 4; seldom++ {
			p := d.pins(4, places, seldom)
			for most := range 5 {
				n, ok := impl.SmoothKeys(p, most)
				same(t, fmt.Sprint("SmoothKeys ", p, most), n, ok, smoothAmong(openingAll([]impl.Pins{p}, all), most))
			}
		}
	}
}

func TestPromise8TextsOfPins(t *testing.T) {
	for text, p := range map[string]impl.Pins{
		"1=0":                          {Depths: 1, Cuts: [][]int{{0}}},
		"1=0,0,0,0,0,0,0":              {Depths: 1, Cuts: [][]int{{0}, {0}, {0}, {0}, {0}, {0}, {0}}},
		"9=8":                          {Depths: 9, Cuts: [][]int{{8}}},
		"9=012345678":                  {Depths: 9, Cuts: [][]int{{0, 1, 2, 3, 4, 5, 6, 7, 8}}},
		"4=02,13":                      {Depths: 4, Cuts: [][]int{{0, 2}, {1, 3}}},
		"9=0,1":                        {Depths: 9, Cuts: [][]int{{0}, {1}}},
		"5=01234,4,024,13,0,234,12":    {Depths: 5, Cuts: [][]int{{0, 1, 2, 3, 4}, {4}, {0, 2, 4}, {1, 3}, {0}, {2, 3, 4}, {1, 2}}},
		"9=08,17,26,35,012345678,4,68": {Depths: 9, Cuts: [][]int{{0, 8}, {1, 7}, {2, 6}, {3, 5}, {0, 1, 2, 3, 4, 5, 6, 7, 8}, {4}, {6, 8}}},
	} {
		got, ok := impl.PinsText(p)
		same(t, "PinsText", got, ok, text)
		back, ok := impl.ParsePins(text)
		samePins(t, "ParsePins "+text, back, ok, p)
	}
	all := smallPins()
	d := &drawn{last: 3}
	for places := 1; places <= mostPins; places++ {
		all = append(all, wholeIn(mostDepths, places), d.pins(mostDepths, places, 2), d.pins(7, places, 3))
	}
	for _, p := range all {
		text, ok := impl.PinsText(p)
		back, fine := impl.ParsePins(text)
		samePins(t, "ParsePins "+text, back, ok && fine, p)
	}
}
