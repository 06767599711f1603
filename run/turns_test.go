package run_test

import (
	"regexp"
	"strconv"
	"strings"
	"testing"

	"wanderwire/api"
	"wanderwire/number"
	"wanderwire/plain"
	"wanderwire/run"
	"wanderwire/talk"
	"wanderwire/varint"
)

// drawer gives numbers below the one that is asked, the same ones of each seed.
func drawer(seed int) func(n int) int {
	turn := seed*7919 + 1
	return func(n int) int {
		turn = (turn*1103515245 + 12345) & (1<<31 - 1)
		return turn >> 12 % n
	}
}

// forms of the table's lines, by patterns.
var forms = []struct {
	pattern *regexp.Regexp
	call    func(k *talk.Talk, a, b int, word string) (string, error)
}{
	{form(`write N (?P<word>[^ ]+)`), func(k *talk.Talk, a, b int, word string) (string, error) { return "ok", k.Write(a, word) }},
	{form(`send N`), func(k *talk.Talk, a, b int, word string) (string, error) { return "ok", k.Send(a) }},
	{form(`come N`), func(k *talk.Talk, a, b int, word string) (string, error) { return "ok", k.Come(a) }},
	{form(`lose N`), func(k *talk.Talk, a, b int, word string) (string, error) { return "ok", k.Lose(a) }},
	{form(`twice N`), func(k *talk.Talk, a, b int, word string) (string, error) { return "ok", k.Twice(a) }},
	{form(`read N N`), func(k *talk.Talk, a, b int, word string) (string, error) {
		s, err := k.Read(a, b)
		if s == "" {
			s = "-"
		}
		return s, err
	}},
	{form(`count`), func(k *talk.Talk, a, b int, word string) (string, error) { return strconv.Itoa(k.Count()), nil }},
	{form(`varint N`), func(k *talk.Talk, a, b int, word string) (string, error) {
		s, err := varint.Put(a)
		told := ""
		for i := range len(s) {
			told += " " + strconv.Itoa(int(s[i]))
		}
		return strings.TrimPrefix(told, " "), err
	}},
	{form(`need N N`), func(k *talk.Talk, a, b int, word string) (string, error) {
		n, err := number.Need(a, b)
		return strconv.Itoa(n), err
	}},
}

// form: a pattern of all of a line.
func form(s string) *regexp.Regexp {
	return regexp.MustCompile(`(?s)\A` + strings.ReplaceAll(s, "N", `(0|[1-9][0-9]{0,3})`) + `\z`)
}

// plainAnswer: the chapter's words of one line.
func plainAnswer(k *talk.Talk, line string) string {
	for _, f := range forms {
		m := f.pattern.FindStringSubmatch(line)
		if m == nil {
			continue
		}
		var nums [2]int
		word := ""
		for i, name := range f.pattern.SubexpNames()[1:] {
			if name == "word" {
				word = m[i+1]
			} else {
				nums[i], _ = strconv.Atoi(m[i+1])
			}
		}
		told, err := f.call(k, nums[0], nums[1], word)
		if err != nil {
			return plain.Told(err).Error()
		}
		return told
	}
	return "bad"
}

// plainRun: the chapter's words of a text.
func plainRun(t *testing.T, text string) []string {
	t.Helper()
	if len(text) > long {
		return []string{"too long"}
	}
	k, err := talk.New(window)
	if err != nil {
		t.Fatal(err)
	}
	lines := strings.Split(text, "\n")
	if lines[len(lines)-1] == "" {
		lines = lines[:len(lines)-1]
	}
	var answers []string
	for _, line := range lines {
		answers = append(answers, plainAnswer(k, line))
	}
	return answers
}

// wordOf bytes, most of them letters.
func wordOf(draw func(int) int) string {
	at := draw(len(letters) - 12)
	word := letters[at : at+1+draw(12)]
	if draw(8) == 0 {
		word += string([]byte{byte(draw(256))})
	}
	return word
}

// numberOf a line: most often one that may be.
func numberOf(draw func(int) int, below int) string {
	switch draw(40) {
	case 0:
		return badNumbers[draw(len(badNumbers))]
	case 1:
		return strconv.Itoa(draw(10002))
	}
	return strconv.Itoa(draw(below))
}

// lineOf a text: right ones by far the most; how many letters there may be is drawn for each text.
func lineOf(draw func(int) int, way int) string {
	switch draw(24) {
	case 0, 1, 2, 3:
		return "write " + numberOf(draw, 2) + " " + wordOf(draw)
	case 4, 5, 6, 7, 8, 9:
		return "send " + numberOf(draw, 2)
	case 10, 11, 12, 13:
		return "come " + numberOf(draw, way)
	case 14:
		return "lose " + numberOf(draw, way)
	case 15:
		return "twice " + numberOf(draw, way)
	case 16, 17, 18:
		return "read " + numberOf(draw, 2) + " " + numberOf(draw, 30)
	case 19:
		return "count"
	case 20:
		return "varint " + numberOf(draw, 200)
	case 21:
		return "need " + numberOf(draw, 400) + " " + numberOf(draw, 400)
	case 22:
		return otherLines[draw(len(otherLines))]
	}
	wrong := wrongOf(right[draw(len(right))].line)
	return wrong[draw(len(wrong))]
}

// textOf lines; some texts are too long, some end without byte 10.
func textOf(seed int) string {
	draw := drawer(seed)
	way := 1 + draw(12)
	var b strings.Builder
	for range draw(400) {
		b.WriteString(lineOf(draw, way) + "\n")
	}
	if draw(3) == 0 {
		return strings.TrimSuffix(b.String(), "\n")
	}
	return b.String()
}

// noiseOf any bytes, and of those that lines have.
func noiseOf(seed int) string {
	draw := drawer(seed)
	from := []string{"01 \n", "send 01\n", "come 0twi\n", "\x00\n \xff\t\r", "count\n"}[draw(5)]
	b := make([]byte, draw(400))
	for i := range b {
		b[i] = from[draw(len(from))]
		if draw(30) == 0 {
			b[i] = byte(draw(256))
		}
	}
	return string(b)
}

// kindOf an answer, so that it can be counted which came.
func kindOf(answer string) string {
	if answer == "ok" || answer == "-" || answer == "bad" || answer == "too long" || strings.HasPrefix(answer, "Err") {
		return answer
	}
	return "told"
}

func TestZ1InARow(t *testing.T) {
	kinds := map[string]int{}
	for seed := range 2000 {
		for _, text := range []string{textOf(seed), noiseOf(seed)} {
			answers := plainRun(t, text)
			want := ""
			for _, a := range answers {
				kinds[kindOf(a)]++
				want += a + "\n"
			}
			wantRun(t, text, want)
		}
	}
	for _, kind := range []string{"ok", "-", "bad", "told", "too long", api.ErrRange.Error(), api.ErrFull.Error()} {
		if kinds[kind] < 100 {
			t.Errorf("%s came %d times in the rows; want more", kind, kinds[kind])
		}
	}
}

// wantBeginnings: the answers to the first lines are the beginning of those to all, one for each.
func wantBeginnings(t *testing.T, text string) {
	t.Helper()
	all := strings.SplitAfter(run.Run(text), "\n")
	lines := strings.SplitAfter(text, "\n")
	if lines[len(lines)-1] == "" {
		lines = lines[:len(lines)-1]
	}
	if len(all) != len(lines)+1 || all[len(lines)] != "" {
		t.Errorf("Run(%.80q) has %d lines; want %d", text, len(all)-1, len(lines))
		return
	}
	for n := range len(lines) + 1 {
		first, want := strings.Join(lines[:n], ""), strings.Join(all[:n], "")
		wantRun(t, first, want)
		// A last line that is not empty is one also without byte 10.
		if n > 0 && lines[n-1] != "\n" {
			wantRun(t, strings.TrimSuffix(first, "\n"), want)
		}
	}
}

func TestZ2Beginnings(t *testing.T) {
	text, _ := joined(session(t))
	texts := []string{"", "\n", "\n\n\n", "count", text, strings.Repeat("count\n", long/6), strings.Repeat("send 0\n", 50), strings.Repeat("send 1\ntwice 0\n", 30) + strings.Repeat("come 0\n", 60)}
	for seed := range 60 {
		texts = append(texts, textOf(5000+seed), noiseOf(5000+seed))
	}
	great := 0
	for _, text := range texts {
		if len(text) > long {
			continue
		}
		if strings.Count(text, "\n") > 200 {
			great++
		}
		wantBeginnings(t, text)
	}
	if great < 5 {
		t.Errorf("%d texts of more than 200 lines; want more", great)
	}
}

// TestZ2TooLong: as far as it is not too long, and no farther.
func TestZ2TooLong(t *testing.T) {
	text := strings.Repeat("send 0\nlose 0\n", long/14+1)
	for n := long - 40; n < len(text); n++ {
		want := strings.Repeat("ok\n", (n+6)/7)
		// A piece of a line is bad, but where it is a line's whole but byte 10.
		if n%7 != 0 && n%7 != 6 {
			want = strings.Repeat("ok\n", n/7) + "bad\n"
		}
		if n > long {
			want = "too long\n"
		}
		wantRun(t, text[:n], want)
	}
}
