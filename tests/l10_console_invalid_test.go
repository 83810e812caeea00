package tests

import (
	"fmt"
	"math"
	"slices"
	"strings"
	"sync"
	"testing"

	"loop.example/g01304/impl"
)

// Promise 11: every function accepts all arguments without panicking and modifies none of them.

// These are lines of all kinds for 3 wheels with 5 digits: some change the desk, some tell of it, some are no or what.
func linesOfDesks() []string {
	return []string{
		"", "fly", "show", "dead", "lock 2 5", "lock 9 9", "set 000", "set 012", "set 001", "kill 000", "kill 001", "kill 444", "free 001", "free 000", "free 444", "turn ", "turn 0+", "turn 2+", "turn 0-1-2-", "go 000", "go 001", "go 222",
		"far 001", "far 222", "way 001", "way 222", "first 000", "first 222", "reach", "parts", "next", "rank", "round", "nth 0", "nth 77", "nth 125", "dial 10 0 3,8,1", "dial 10 0 10", "close 10 1", "close 1 1", "set 005", "show ", " ",
	}
}

// None of these is a desk. Where the codes are some, the Lock is one of 3 wheels with 5 digits.
func badDesks() []impl.Desk {
	bad := []impl.Desk{{}, {Code: "000"}, {Dead: []string{"001"}}, {Code: "000", Dead: []string{"001"}}}
	for _, l := range badSearched() {
		zeros := strings.Repeat("0", max(0, min(l.Wheels, 10)))
		bad = append(bad, deskOf(l, zeros), deskOf(l, "000"), deskOf(l, ""), deskOf(l, zeros, "001"), deskOf(l, zeros, ""))
	}
	l := lockOf(3, 5)
	for _, code := range badCodes() {
		bad = append(bad, deskOf(l, code), deskOf(l, code, "001", "010"), deskOf(l, code, code))
	}
	for _, dead := range badDead() {
		bad = append(bad, deskOf(l, "000", dead...), deskOf(l, "333", dead...), deskOf(l, "", dead...))
	}
	codes := codesOf(l)
	for k := range mostDeadKept {
		bad = append(bad, deskOf(l, codes[k], codes[:mostDeadKept]...), deskOf(l, codes[k], codes[k]))
	}
	return append(bad, deskOf(l, "444", codes[:mostDeadKept+1]...), deskOf(lockOf(1, 2), "0", "0", "1"), deskOf(lockOf(1, 2), "1", "0", "1"))
}

func TestPromise11NoDesks(t *testing.T) {
	for _, d := range badDesks() {
		what := fmt.Sprintf("%v %.20q %.60q", d.Lock, d.Code, fmt.Sprint(d.Dead))
		same(t, "IsDesk "+what, impl.IsDesk(d), true, false)
		for _, line := range linesOfDesks() {
			failsLine(t, fmt.Sprintf("%s %q", what, line), d, line)
		}
	}
}

// Numbers that no lock has, each in both places, beside right ones and others.
func TestPromise11NumbersOfDesks(t *testing.T) {
	for _, number := range []int{math.MinInt, math.MinInt + 1, -1 << 32, -1, 0, 11, 12, 100, 1 << 32, 1<<32 + 3, 1 << 62, math.MaxInt - 1, math.MaxInt} {
		for _, l := range []impl.Lock{lockOf(number, 5), lockOf(3, number), lockOf(number, number), lockOf(number, math.MaxInt), lockOf(math.MinInt, number), lockOf(number, 2)} {
			for _, d := range []impl.Desk{deskOf(l, "000"), deskOf(l, "000", "001"), deskOf(l, ""), deskOf(l, "0")} {
				same(t, fmt.Sprint("IsDesk ", d), impl.IsDesk(d), true, false)
				for _, line := range linesOfDesks() {
					failsLine(t, fmt.Sprint(d, line), d, line)
				}
			}
		}
	}
}

func TestPromise11LinesWithANewline(t *testing.T) {
	d := impl.FirstDesk()
	for _, line := range []string{"\n", "\n\n", "show\n", "\nshow", "sh\now", "show\nshow", "show\nshow\n", "show\r\n", " \n", "\n ", "set\n11", "set 11\n", "turn \n", "turn 0-\n", "fly\n", "dial 10 0 3,\n8", strings.Repeat("\n", mostInScript), strings.Repeat("0", mostInScript-1) + "\n"} {
		failsLine(t, fmt.Sprintf("%.40q", line), d, line)
	}
}

func TestPromise11LinesThatAreTooLong(t *testing.T) {
	d := impl.FirstDesk()
	for _, count := range []int{mostInScript + 1, mostInScript + 2, 2 * mostInScript, 1000000} {
		for _, start := range []string{"", "show", "turn ", "set 11 ", "dial 10 0 3", "\n"} {
			failsLine(t, fmt.Sprint(start, count), d, start+strings.Repeat("0", count-len(start)))
			failsLine(t, fmt.Sprint(start, count, " blanks"), d, start+strings.Repeat(" ", count-len(start)))
		}
	}
}

func TestPromise11TextsThatAreNoScripts(t *testing.T) {
	for _, s := range []string{
		" ", "show", "show\nshow", "show\n\nshow", "\nshow", "show\n ", "show\r", "show\n\r", "\r", "\x00", "show\n\x00", "show\u2028", "fly", "-", "\n-", strings.Repeat("show\n", 3) + "show", strings.Repeat("\n", mostLines) + "x", strings.Repeat("\n", mostLines-1) + "x",
	} {
		failsScript(t, fmt.Sprintf("%.40q", s), s)
	}
	for _, count := range []int{mostInScript + 1, mostInScript + 2, 2 * mostInScript, 1000000} {
		failsScript(t, fmt.Sprint("too long ", count), strings.Repeat("0", count-1)+"\n")
		failsScript(t, fmt.Sprint("too long, not ended ", count), strings.Repeat("0", count))
		failsScript(t, fmt.Sprint("newlines alone ", count), strings.Repeat("\n", count))
	}
	failsScript(t, "as long as may be, not ended", strings.Repeat("0", mostInScript))
	for _, count := range []int{mostLines + 1, mostLines + 2, 2 * mostLines, 599} {
		failsScript(t, fmt.Sprint("too many lines ", count), strings.Repeat("show\n", count))
		failsScript(t, fmt.Sprint("too many lines, the last not ended ", count), strings.Repeat("show\n", count)+"show")
	}
}

// A line with a byte more, less or changed is another one of the table, or is no or what.
func TestPromise11LinesNearThoseOfTheTable(t *testing.T) {
	c, d := newClerk(), deskOf(lockOf(2, 5), "00", "01", "10")
	for _, line := range []string{"lock 1 3", "set 11", "kill 44", "free 10", "turn 0-1-", "go 11", "show", "dead", "far 11", "way 11", "first 40", "reach", "parts", "next", "rank", "round", "nth 9", "dial 5 0 3,1", "close 9 1"} {
		for i := range len(line) + 1 {
			for letter := range 256 {
				near := []string{line[:i] + string([]byte{byte(letter)}) + line[i:]}
				if i < len(line) {
					near = append(near, line[:i]+line[i+1:], line[:i]+string([]byte{byte(letter)})+line[i+1:])
				}
				for _, s := range near {
					if strings.Contains(s, "\n") {
						failsLine(t, fmt.Sprintf("%q", s), d, s)
						continue
					}
					want, wantReply := c.told(d, s)
					behind, reply, ok := impl.DeskLine(d, s)
					if !ok || reply != wantReply || !equalDesks(behind, want) {
						t.Errorf("DeskLine %q: got %v %q, %v, want %v %q", s, behind, reply, ok, want, wantReply)
					}
				}
			}
		}
	}
}

// roomyDesk returns a desk with room behind its dead codes, and all of the memory there.
func roomyDesk(d impl.Desk) (impl.Desk, []string) {
	room := slices.Concat([]string{"in front"}, d.Dead, []string{"000", "behind", "444"})
	return deskOf(d.Lock, d.Code, room[1:1+len(d.Dead)]...), room
}

// tellDesk tells what becomes of a desk, and spoils all memory that it is told in.
func tellDesk(d impl.Desk, line string) string {
	behind, reply, ok := impl.DeskLine(d, line)
	told := fmt.Sprint(impl.IsDesk(d), behind, reply, ok)
	_ = append(behind.Dead, "spoilt")
	spoilTexts(behind.Dead)
	return told
}

// Behind the dead codes of a desk is room, in which there are others: none of these is read, changed or handed out.
func TestPromise11DesksAreLeftAlone(t *testing.T) {
	l := lockOf(3, 5)
	codes := codesOf(l)
	for _, d := range []impl.Desk{
		deskOf(l, "000"), deskOf(l, "000", "001"), deskOf(l, "000", "001", "010", "444"), deskOf(l, "222", "001", "010", "122", "322", "444"), deskOf(l, "444", codes[:mostDeadKept]...), deskOf(l, "444", codes[:mostDeadKept-1]...),
	} {
		for _, line := range append(linesOfDesks(), "lock 1 2\n", strings.Repeat("x", mostInScript+1)) {
			what := fmt.Sprintf("%s %.20q", textOfDesk(d), line)
			want := tellDesk(copyOfDesk(d), line)
			roomy, room := roomyDesk(d)
			before := slices.Clone(room)
			same(t, "with room behind the dead codes "+what, tellDesk(roomy, line), true, want)
			same(t, "the same call again "+what, tellDesk(roomy, line), true, want)
			sameList(t, "the dead codes "+what, room, true, before)
			same(t, "where they end "+what, len(roomy.Dead), true, len(d.Dead))
		}
	}
}

func TestPromise11NoDesksAreLeftAlone(t *testing.T) {
	for _, d := range badDesks() {
		if len(d.Dead) > 200 {
			continue
		}
		roomy, room := roomyDesk(d)
		before := slices.Clone(room)
		for _, line := range []string{"kill 002", "free 001", "set 012", "dead", "fly"} {
			tellDesk(roomy, line)
		}
		sameList(t, fmt.Sprintf("the dead codes %.40q", before), room, true, before)
	}
}

// All that scripts return is spoilt, with the room behind it: what they return the next time is the same.
func TestPromise11ResultsOfScriptsAreNew(t *testing.T) {
	for range 3 {
		d := impl.FirstDesk()
		sameDesk(t, "FirstDesk", d, true, deskOf(lockOf(2, 5), "00", "01", "10"))
		spoilTexts(d.Dead)
		for s, want := range map[string][]string{
			"": {"01", "10"}, "fly\n": {"01", "10"}, "set 11\n": {"01", "10"}, "kill 10\n": {"01", "10"}, "kill 02\n": {"01", "02", "10"}, "kill 00\n": {"01", "10"}, "free 10\n": {"01"}, "free 01\n": {"10"}, "kill 02\nfree 02\nkill 04\nfly\n": {"01", "04", "10"},
		} {
			d, ok := impl.DeskAfter(s)
			sameList(t, fmt.Sprintf("DeskAfter %q", s), d.Dead, ok, want)
			spoilTexts(d.Dead)
		}
		replies, ok := impl.RunScript("show\nfly\ndead\nset 01\n")
		sameList(t, "RunScript", replies, ok, []string{"00", "what", "01,10", "no"})
		spoilTexts(replies)
		failed, ok := impl.FailedLines("show\nfly\ndead\nset 01\n")
		sameList(t, "FailedLines", failed, ok, []int{2, 4})
		spoilNumbers(failed)
	}
}

// A line that fails behind another one that kills or frees a code leaves the list of dead codes as it was.
func TestPromise11FailedLinesChangeNothing(t *testing.T) {
	c, l := newClerk(), lockOf(3, 5)
	d := deskOf(l, "222", "001", "010", "122", "322", "444")
	for _, first := range []string{"kill 000", "kill 333", "kill 443", "free 001", "free 122", "free 444", "set 000", "turn 1+", "show"} {
		desk := c.sameLine(t, d, first)
		want := copyOfDesk(desk)
		for _, line := range []string{"kill 010", "kill " + desk.Code, "free 440", "free 002", "set 010", "set 322", "go 010", "turn 0+1+2+3+", "lock 4 6", "lock 0 0", "nth 125", "fly", "kill", "kill 005", "free 5", ""} {
			behind, reply, ok := impl.DeskLine(desk, line)
			same(t, "the reply to "+line, reply == "no" || reply == "what", ok, true)
			sameDesk(t, "the desk behind "+line, behind, ok, want)
			spoilTexts(behind.Dead)
			sameDesk(t, "the desk before "+line, desk, true, want)
		}
	}
}

func TestPromise11NilAndEmptyDeadCodes(t *testing.T) {
	for _, l := range append(badSearched(), lockOf(1, 2), lockOf(3, 5), lockOf(3, 10)) {
		for _, code := range []string{"", "0", "000"} {
			for _, line := range linesOfDesks() {
				nothing, empty := impl.Desk{Lock: l, Code: code}, impl.Desk{Lock: l, Code: code, Dead: []string{}}
				same(t, fmt.Sprintf("nil and empty dead codes %v %q", l, line), tellDesk(empty, line), true, tellDesk(nothing, line))
			}
		}
	}
}

func TestPromise11NothingPanicsInScripts(t *testing.T) {
	d := &drawn{last: 15}
	bits := append(linesOfDesks(), "\n", " ", ",", "-", "+", "\x00", "\xff", "é", "0", "999999", "1000000", "set", "kill", "free", "turn", "dial", "lock", "999999999999999999999", "-9223372036854775808", "0-", "5+", "6+")
	for range 3000 {
		s := ""
		for range d.below(30) {
			s += bits[d.below(len(bits))] + d.oneOf("", " ", "\n", "\n", "\n")
		}
		for _, desk := range []impl.Desk{{}, impl.FirstDesk(), deskOf(lockOf(3, 5), s), deskOf(lockOf(3, 5), "000", s), deskOf(lockOf(3, 5), "000", "001", "444")} {
			tellDesk(desk, s)
			tellDesk(desk, strings.ReplaceAll(s, "\n", " "))
		}
		replies, ok := impl.RunScript(s)
		_, behind := impl.DeskAfter(s)
		failed, fine := impl.FailedLines(s)
		if isScript := s == "" || s[len(s)-1] == '\n' && strings.Count(s, "\n") <= mostLines; !isScript {
			failsScript(t, fmt.Sprintf("%q", s), s)
			continue
		}
		same(t, fmt.Sprintf("replies %q", s), len(replies), ok && behind, strings.Count(s, "\n"))
		same(t, fmt.Sprintf("failed lines %q", s), len(failed) <= len(replies), fine, true)
	}
}

func TestPromise11ScriptsAtTheSameTime(t *testing.T) {
	roomy, _ := roomyDesk(deskOf(lockOf(3, 5), "000", "001", "010", "444"))
	s := scriptOf("kill 44", "first 11", "fly", "free 10", "lock 3 5", "kill 000", "kill 100", "first 200", "set 100", "next", "dial 10 0 3,8,1")
	call := func() string {
		told := ""
		for _, line := range linesOfDesks() {
			told += tellDesk(roomy, line)
		}
		replies, ok := impl.RunScript(s)
		d, fine := impl.DeskAfter(s)
		failed, good := impl.FailedLines(s)
		return told + fmt.Sprint(replies, ok, d, fine, failed, good)
	}
	want := call()
	told := make([]string, 16)
	var callers sync.WaitGroup
	for i := range told {
		callers.Go(func() {
			for range 5 {
				told[i] = call()
			}
		})
	}
	callers.Wait()
	for _, s := range told {
		same(t, "calls at the same time", s, true, want)
	}
}
