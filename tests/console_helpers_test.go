package tests

import (
	"fmt"
	"regexp"
	"slices"
	"strconv"
	"strings"
	"testing"

	"loop.example/g01304/impl"
)

// The helpers hold a line against one pattern after the other, each a row of the table of lines, and then make the call that the row names.

const (
	mostInScript = 3000
	mostLines    = 50
	mostInWord   = 999999
	mostDeadKept = 60
)

// A row does what the table says with the words that are found, and tells the reply, or that there is none.
type row struct {
	line string
	do   func(d impl.Desk, words []string) (impl.Desk, string, bool)
}

func deskOf(l impl.Lock, code string, dead ...string) impl.Desk {
	return impl.Desk{Lock: l, Code: code, Dead: dead}
}

func equalDesks(a impl.Desk, b impl.Desk) bool {
	return a.Lock == b.Lock && a.Code == b.Code && slices.Equal(a.Dead, b.Dead)
}

func copyOfDesk(d impl.Desk) impl.Desk {
	return deskOf(d.Lock, d.Code, slices.Clip(slices.Clone(d.Dead))...)
}

func sameDesk(t *testing.T, what string, got impl.Desk, ok bool, want impl.Desk) {
	t.Helper()
	if !ok || !equalDesks(got, want) {
		t.Errorf("%s: got %v, %v, want %v", what, got, ok, want)
	}
}

func failsDesk(t *testing.T, what string, got impl.Desk, ok bool) {
	t.Helper()
	if ok || !equalDesks(got, impl.Desk{}) {
		t.Errorf("%s: got %v, %v, should fail with a zero desk", what, got, ok)
	}
}

func failsLine(t *testing.T, what string, d impl.Desk, line string) {
	t.Helper()
	behind, reply, ok := impl.DeskLine(d, line)
	failsDesk(t, "DeskLine "+what, behind, ok)
	fails(t, "the reply to "+what, reply, ok)
}

func failsScript(t *testing.T, what string, s string) {
	t.Helper()
	replies, ok := impl.RunScript(s)
	failsList(t, "RunScript "+what, replies, ok)
	d, ok := impl.DeskAfter(s)
	failsDesk(t, "DeskAfter "+what, d, ok)
	failed, ok := impl.FailedLines(s)
	failsList(t, "FailedLines "+what, failed, ok)
}

// numberAt is asked for numbers alone: a pattern lets through nothing else.
func numberAt(word string) int {
	number, err := strconv.Atoi(word)
	if err != nil {
		panic(err)
	}
	return number
}

func numbersAt(word string) []int {
	var numbers []int
	for _, number := range strings.Split(word, ",") {
		numbers = append(numbers, numberAt(number))
	}
	return numbers
}

func turnsAt(word string) []impl.Turn {
	var turns []impl.Turn
	for ; word != ""; word = word[2:] {
		turns = append(turns, turnBy(numberAt(word[:1]), map[byte]int{'+': 1, '-': -1}[word[1]]))
	}
	return turns
}

// listed writes a list as a reply has it.
func listed[V any](parts []V) string {
	if len(parts) == 0 {
		return "-"
	}
	text := ""
	for _, part := range parts {
		text += "," + fmt.Sprint(part)
	}
	return text[1:]
}

func turnsListed(turns []impl.Turn) string {
	text := ""
	for _, t := range turns {
		text += strconv.Itoa(t.Wheel) + map[int]string{1: "+", -1: "-"}[t.By]
	}
	if text == "" {
		return "-"
	}
	return text
}

func changingRows() []row {
	return []row{
		{"lock N K", func(d impl.Desk, words []string) (impl.Desk, string, bool) {
			l := lockOf(numberAt(words[0]), numberAt(words[1]))
			zeros, ok := impl.ZeroCode(l)
			n, _ := impl.CountCodes(l)
			return deskOf(l, zeros), zeros, ok && n <= mostSearched
		}},
		{"set C", func(d impl.Desk, words []string) (impl.Desk, string, bool) {
			return deskOf(d.Lock, words[0], d.Dead...), words[0], !slices.Contains(d.Dead, words[0])
		}},
		{"kill C", func(d impl.Desk, words []string) (impl.Desk, string, bool) {
			ok := words[0] != d.Code && !slices.Contains(d.Dead, words[0]) && len(d.Dead) < mostDeadKept
			return deskOf(d.Lock, d.Code, deadWith(d.Dead, words[0])...), d.Code, ok
		}},
		{"free C", func(d impl.Desk, words []string) (impl.Desk, string, bool) {
			left := slices.DeleteFunc(slices.Clone(d.Dead), func(code string) bool { return code == words[0] })
			return deskOf(d.Lock, d.Code, left...), d.Code, slices.Contains(d.Dead, words[0])
		}},
		{"turn T", func(d impl.Desk, words []string) (impl.Desk, string, bool) {
			code, ok := impl.WalkAround(d.Lock, d.Dead, d.Code, turnsAt(words[0]))
			return deskOf(d.Lock, code, d.Dead...), code, ok
		}},
		{"go C", func(d impl.Desk, words []string) (impl.Desk, string, bool) {
			_, ok := impl.FirstAround(d.Lock, d.Dead, d.Code, words[0])
			return deskOf(d.Lock, words[0], d.Dead...), words[0], ok
		}},
	}
}

// An answer is what a row tells that changes nothing.
type answer func(d impl.Desk, words []string) (any, bool)

func (tell answer) do(d impl.Desk, words []string) (impl.Desk, string, bool) {
	told, ok := tell(d, words)
	return d, fmt.Sprint(told), ok
}

func tellingRows() []row {
	answers := map[string]answer{
		"show": func(d impl.Desk, words []string) (any, bool) { return d.Code, true },
		"dead": func(d impl.Desk, words []string) (any, bool) { return listed(d.Dead), true },
		"far C": func(d impl.Desk, words []string) (any, bool) {
			n, ok := impl.FewestTurns(d.Lock, d.Code, words[0])
			return n, ok
		},
		"way C": func(d impl.Desk, words []string) (any, bool) {
			n, ok := impl.FewestAround(d.Lock, d.Dead, d.Code, words[0])
			return n, ok
		},
		"first C": func(d impl.Desk, words []string) (any, bool) {
			turns, ok := impl.FirstAround(d.Lock, d.Dead, d.Code, words[0])
			return turnsListed(turns), ok
		},
		"reach": func(d impl.Desk, words []string) (any, bool) {
			n, ok := impl.CountReached(d.Lock, d.Dead, d.Code)
			return n, ok
		},
		"parts": func(d impl.Desk, words []string) (any, bool) {
			n, ok := impl.PartsOfLock(d.Lock, d.Dead)
			return n, ok
		},
		"next": func(d impl.Desk, words []string) (any, bool) {
			codes, ok := impl.LiveNext(d.Lock, d.Dead, d.Code)
			return listed(codes), ok
		},
		"rank": func(d impl.Desk, words []string) (any, bool) {
			n, ok := impl.ForthRank(d.Lock, d.Code)
			return n, ok
		},
		"round": func(d impl.Desk, words []string) (any, bool) {
			n, ok := impl.RoundRank(d.Lock, d.Code)
			return n, ok
		},
		"nth N": func(d impl.Desk, words []string) (any, bool) {
			code, ok := impl.RoundCode(d.Lock, numberAt(words[0]))
			return code, ok
		},
		"dial N K L": func(d impl.Desk, words []string) (any, bool) {
			steps, ok := impl.OpeningTurns(numberAt(words[0]), numberAt(words[1]), numbersAt(words[2]))
			return listed(steps), ok
		},
		"close N K": func(d impl.Desk, words []string) (any, bool) {
			tries, ok := impl.TriesOf(numberAt(words[0]), numberAt(words[1]))
			return listed(tries), ok
		},
	}
	var rows []row
	for line, tell := range answers {
		rows = append(rows, row{line, tell.do})
	}
	return rows
}

// A clerk knows the rows of the table, and keeps the patterns for the locks that it has met.
type clerk struct {
	rows     []row
	patterns map[string]*regexp.Regexp
}

func newClerk() *clerk {
	return &clerk{rows: slices.Concat(changingRows(), tellingRows()), patterns: map[string]*regexp.Regexp{}}
}

func (c *clerk) patternOf(l impl.Lock, line string) *regexp.Regexp {
	key := fmt.Sprint(l, line)
	if c.patterns[key] == nil {
		number := "(?:0|[1-9][0-9]{0,5})"
		words := strings.NewReplacer(
			"N", "("+number+")", "K", "("+number+")", "L", "("+number+"(?:,"+number+")*)",
			"C", fmt.Sprintf("([0-%d]{%d})", l.Digits-1, l.Wheels), "T", "((?:[0-5][+-]){0,200})",
		)
		c.patterns[key] = regexp.MustCompile(`\A` + words.Replace(line) + `\z`)
	}
	return c.patterns[key]
}

// told returns the desk behind a line, and the reply.
func (c *clerk) told(d impl.Desk, line string) (impl.Desk, string) {
	for _, r := range c.rows {
		found := c.patternOf(d.Lock, r.line).FindStringSubmatch(line)
		if found == nil {
			continue
		}
		behind, reply, ok := r.do(d, found[1:])
		if !ok {
			return d, "no"
		}
		return behind, reply
	}
	return d, "what"
}

// sameLine executes a line on a desk, and returns the desk behind it.
func (c *clerk) sameLine(t *testing.T, d impl.Desk, line string) impl.Desk {
	t.Helper()
	before := copyOfDesk(d)
	want, wantReply := c.told(before, line)
	behind, reply, ok := impl.DeskLine(d, line)
	what := fmt.Sprintf("%v %.60q", before, line)
	sameDesk(t, "DeskLine "+what, behind, ok, want)
	same(t, "the reply "+what, reply, ok, wantReply)
	same(t, "IsDesk behind "+what, impl.IsDesk(behind), ok, true)
	sameDesk(t, "the desk before "+what, d, ok, before)
	return behind
}

func scriptOf(lines ...string) string {
	s := ""
	for _, line := range lines {
		s += line + "\n"
	}
	return s
}

// sameScript executes a script, and returns the desk behind it.
func (c *clerk) sameScript(t *testing.T, lines ...string) impl.Desk {
	t.Helper()
	want := deskOf(lockOf(2, 5), "00", "01", "10")
	var wantReplies []string
	var wantFailed []int
	for i, line := range lines {
		behind, reply := c.told(want, line)
		want = behind
		wantReplies = append(wantReplies, reply)
		if reply == "no" || reply == "what" {
			wantFailed = append(wantFailed, i+1)
		}
	}
	s := scriptOf(lines...)
	what := fmt.Sprintf("%.300q", s)
	replies, ok := impl.RunScript(s)
	sameList(t, "RunScript "+what, replies, ok, wantReplies)
	d, ok := impl.DeskAfter(s)
	sameDesk(t, "DeskAfter "+what, d, ok, want)
	failed, ok := impl.FailedLines(s)
	sameList(t, "FailedLines "+what, failed, ok, wantFailed)
	return d
}

// A tellTale tells what becomes of a desk, line by line: each line with its reply, and with the desk behind it where this changes.
type tellTale struct {
	line  string
	reply string
	desk  string
}

func textOfDesk(d impl.Desk) string {
	return fmt.Sprintf("%dx%d %s %s", d.Lock.Wheels, d.Lock.Digits, d.Code, listed(d.Dead))
}

// sameTale holds replies and desks against what is written down.
func sameTale(t *testing.T, d impl.Desk, tale []tellTale) {
	t.Helper()
	before := textOfDesk(d)
	for _, told := range tale {
		behind, reply, ok := impl.DeskLine(d, told.line)
		same(t, fmt.Sprintf("the reply to %.60q on %s", told.line, before), reply, ok, told.reply)
		want := before
		if told.desk != "" {
			want = told.desk
		}
		same(t, fmt.Sprintf("the desk behind %.60q on %s", told.line, before), textOfDesk(behind), ok, want)
		d, before = behind, want
	}
}

// oneOf draws one of some words: those that should come more often are there several times.
func (d *drawn) oneOf(words ...string) string { return words[d.below(len(words))] }

// lineWord returns for a letter of the table a word that most often is a right one.
func (d *drawn) lineWord(l impl.Lock, letter byte, codes []string) string {
	switch letter {
	case 'N', 'K':
		small, great := strconv.Itoa(d.below(11)), strconv.Itoa(d.below(130))
		return d.oneOf(small, small, small, small, small, great, great, great, "0", "2", "100", "101", "999999", "1000000", "00", "07", "-1", "+1", "")
	case 'C':
		code, other := d.codeOf(codes), strings.Repeat("9", l.Wheels)
		return d.oneOf(code, code, code, code, code, code, code, code, other, code+"0", code[1:])
	case 'T':
		turns := ""
		for range d.below(8) {
			turns += strconv.Itoa(d.below(l.Wheels)) + d.oneOf("+", "-")
		}
		return d.oneOf(turns, turns, turns, turns, turns, turns, "", turns+"5+", turns+"6+", turns+"0", "-")
	}
	var numbers []string
	for range 1 + d.below(6) {
		small := strconv.Itoa(d.below(3))
		numbers = append(numbers, d.oneOf(small, small, small, small, small, d.lineWord(l, 'N', codes)))
	}
	return strings.Join(numbers, ",")
}

// line returns a line that most often is one of the table.
func (d *drawn) line(c *clerk, l impl.Lock) string {
	codes := codesOf(l)
	words := strings.Fields(c.lines()[d.below(len(c.rows))])
	for i, word := range words {
		if len(word) == 1 {
			words[i] = d.lineWord(l, word[0], codes)
		}
	}
	line := strings.Join(words, " ")
	if d.below(8) > 0 {
		return line
	}
	return d.oneOf(line+" ", " "+line, line+" 0", line[:d.below(len(line)+1)], strings.ToUpper(line), strings.Replace(line, " ", "  ", 1))
}

// lines returns the lines of the table in order, as the order of the rows may change from run to run.
func (c *clerk) lines() []string {
	var lines []string
	for _, r := range c.rows {
		lines = append(lines, r.line)
	}
	slices.Sort(lines)
	return lines
}
