package chain_test

import (
	"math/rand"
	"slices"
	"strings"
	"testing"

	"horologe/api"
	"horologe/chain"
)

// pieced is a chain on the pages from 0 on, in their order, with so many bytes each.
func pieced(many ...int) ([]string, string) {
	var payloads []string
	var value strings.Builder
	for i, n := range many {
		next := i + 1
		if next == len(many) {
			next = -1
		}
		payloads = append(payloads, says(next, n, text(n, 50*i)))
		value.WriteString(text(n, 50*i))
	}
	return payloads, value.String()
}

// TestUnevenChains: chains that no value has, but chains.
func TestUnevenChains(t *testing.T) {
	for _, many := range [][]int{
		{0}, {0, 0}, {0, 0, 0, 0, 0},
		{1}, {1, 1}, {1, 2, 3, 4, 5}, {5, 0}, {0, 5}, {3, 0, 0, 4}, {0, 228}, {228, 0}, {227, 228},
		{228, 228, 228, 228}, {228, 228, 228, 228, 0},
		{228, 228, 228, 228, 112}, {112, 228, 228, 228, 228}, {228, 228, 112, 228, 228}, {204, 205, 205, 205, 205},
	} {
		r := begun(t, 12, 2)
		payloads, value := pieced(many...)
		r.pages(payloads...)
		r.gets(0, value)
		r.goes(0, upTo(len(many))...)
		r.drops(0, api.OK)
		r.there()
	}
}

// TestBytesBehind: what stands behind a page's piece counts for nothing.
func TestBytesBehind(t *testing.T) {
	r := begun(t, 12, 2)
	r.pages(says(1, 2, text(228, 1)), says(-1, 0, text(228, 2)), says(-1, 227, text(228, 3)))
	r.gets(0, text(2, 1))
	r.goes(0, 0, 1)
	r.gets(2, text(227, 3))
}

// TestCorrupt: chains that are none.
func TestCorrupt(t *testing.T) {
	long := text(228, 9)
	five, _ := pieced(228, 228, 228, 228, 112)
	for name, payloads := range map[string][]string{
		"229 bytes":                        {says(-1, 229, long)},
		"229 bytes, and on":                {says(1, 229, long), says(-1, 0, "")},
		"256 bytes":                        {says(-1, 256, long)},
		"255 bytes":                        {says(-1, 255, long)},
		"65535 bytes":                      {says(-1, 65535, long)},
		"32768 bytes":                      {says(-1, 32768, long)},
		"only bytes 255":                   {strings.Repeat("\xff", 232)},
		"229 bytes in the second":          {says(1, 1, "a"), says(-1, 229, long)},
		"229 bytes in the fifth":           {says(1, 1, "a"), says(2, 1, "a"), says(3, 1, "a"), says(4, 1, "a"), says(-1, 229, long)},
		"itself":                           {says(0, 1, "a")},
		"itself, empty":                    {says(0, 0, "")},
		"itself, full":                     {says(0, 228, long)},
		"the second itself":                {says(1, 1, "a"), says(1, 1, "b")},
		"the fifth itself":                 {says(1, 1, "a"), says(2, 1, "b"), says(3, 1, "c"), says(4, 1, "d"), says(4, 1, "e")},
		"the first again":                  {says(1, 1, "a"), says(0, 1, "b")},
		"the first again, from the fifth":  {says(1, 0, ""), says(2, 0, ""), says(3, 0, ""), says(4, 0, ""), says(0, 0, "")},
		"the second again, from the third": {says(1, 0, ""), says(2, 0, ""), says(1, 0, "")},
		"not there":                        {says(1, 1, "a")},
		"not there, 510":                   {says(510, 1, "a")},
		"not there, 511":                   {says(511, 1, "a")},
		"not there, 512":                   {says(512, 1, "a")},
		"not there, 65534":                 {says(65534, 1, "a")},
		"the third not there":              {says(1, 1, "a"), says(2, 1, "b")},
		"the fifth not there":              {says(1, 0, ""), says(2, 0, ""), says(3, 0, ""), says(4, 0, "")},
		"six pages":                        {says(1, 1, "a"), says(2, 1, "b"), says(3, 1, "c"), says(4, 1, "d"), says(5, 1, "e"), says(-1, 1, "f")},
		"six empty pages":                  {says(1, 0, ""), says(2, 0, ""), says(3, 0, ""), says(4, 0, ""), says(5, 0, ""), says(-1, 0, "")},
		"the sixth not there":              {says(1, 0, ""), says(2, 0, ""), says(3, 0, ""), says(4, 0, ""), says(5, 0, "")},
		"1024 bytes, and a sixth page":     append(slices.Clone(five[:4]), says(5, 112, long), says(-1, 0, "")),
		"1025 bytes":                       append(slices.Clone(five[:4]), says(-1, 113, long)),
		"1140 bytes":                       append(slices.Clone(five[:4]), says(-1, 228, long)),
		"1025 bytes, the first one short":  {says(1, 113, long), says(2, 228, long), says(3, 228, long), says(4, 228, long), says(-1, 228, long)},
		"1025 bytes, all of them short":    {says(1, 205, long), says(2, 205, long), says(3, 205, long), says(4, 205, long), says(-1, 205, long)},
	} {
		for _, frames := range []int{1, 3, 32} {
			r := begun(t, 12, frames)
			r.pages(payloads...)
			r.commits()
			r.refused(0, api.ErrCorrupt)
			if _, _, held := r.p.Count(); held != 0 || t.Failed() {
				t.Fatal(name, frames, held)
			}
			// Again, with what is in memory now.
			r.unchanged(func() { r.refused(0, api.ErrCorrupt) })
			r.gets(r.put("ab"), "ab")
		}
	}
}

// TestNextDropped: the next page was there, and is not.
func TestNextDropped(t *testing.T) {
	for i := range 5 {
		r := begun(t, 20, 3)
		r.puts(text(1024, i), 4)
		r.does("Drop", r.p.Drop(4-i))
		want := api.ErrCorrupt
		if i == 0 {
			want = api.ErrRange
		}
		r.refused(4, want)
		r.refused(4-i, api.ErrRange)
	}
}

// TestPageTaken: the next page is one of another chain, and so there.
func TestPageTaken(t *testing.T) {
	r := begun(t, 20, 3)
	r.puts(text(500, 1), 2)
	r.does("Drop", r.p.Drop(1))
	r.puts("other", 1)
	r.gets(2, text(228, 1)+"other")
	r.goes(2, 2, 1)
}

// TestCorruptFirst: what a page says is judged ahead of what comes behind it.
func TestCorruptFirst(t *testing.T) {
	long := text(228, 0)
	for name, payloads := range map[string][]string{
		"229 bytes":                     {says(1, 229, long)},
		"229 bytes in the second":       {says(1, 1, "a"), says(2, 229, long)},
		"five, and on":                  {says(1, 0, ""), says(2, 0, ""), says(3, 0, ""), says(4, 0, ""), says(5, 0, "")},
		"five of 1140 bytes":            {says(1, 228, long), says(2, 228, long), says(3, 228, long), says(4, 228, long), says(-1, 228, long)},
		"five of 1140 bytes, and on":    {says(1, 228, long), says(2, 228, long), says(3, 228, long), says(4, 228, long), says(5, 228, long)},
		"itself":                        {says(0, 1, "a")},
		"an earlier one, from the last": {says(1, 1, "a"), says(2, 1, "a"), says(1, 1, "a")},
	} {
		r := begun(t, 20, len(payloads))
		r.pages(payloads...)
		r.page(says(-1, 0, ""))
		r.commits()
		// What comes behind could not be read: all frames are held, and the disk is down.
		r.holds(upTo(len(payloads))...)
		r.refused(0, api.ErrCorrupt)
		r.goesDown()
		r.refused(0, api.ErrCorrupt)
		if t.Failed() {
			t.Fatal(name)
		}
	}
}

// judge is what a chain is by the chapter's words, over a plain map of what pages say.
func judge(payloads map[int]string, first int) ([]int, string, api.Errno) {
	if _, is := payloads[first]; !is {
		return nil, "", api.ErrRange
	}
	var pages []int
	value := ""
	for l := first; ; {
		x, is := payloads[l]
		if !is || len(pages) == 5 {
			return nil, "", api.ErrCorrupt
		}
		many := 256*int(x[2]) + int(x[3])
		if many > 228 {
			return nil, "", api.ErrCorrupt
		}
		pages = append(pages, l)
		value += full(x)[4:][:many]
		if x[0] == 0 && x[1] == 0 {
			break
		}
		l = 256*int(x[0]) + int(x[1]) - 1
	}
	if len(value) > 1024 {
		return nil, "", api.ErrCorrupt
	}
	return pages, value, api.OK
}

// tangle is what few pages say that name one another, mostly.
func tangle(x *rand.Rand, many int) map[int]string {
	payloads := map[int]string{}
	for l := range many {
		next, n := x.Intn(many+1)-1, x.Intn(233)
		switch x.Intn(12) {
		case 0:
			next = x.Intn(65535)
		case 1:
			n = x.Intn(65536)
		case 2, 3:
			next = -1
		case 4, 5, 6:
			next = (l + 1) % many
		}
		if x.Intn(3) == 0 {
			n = 200 + x.Intn(29)
		}
		payloads[l] = says(next, n, text(x.Intn(229), x.Intn(251)))
	}
	return payloads
}

// TestTangles: pages that say anything, each of them as a first one.
func TestTangles(t *testing.T) {
	for seed := range int64(1500) {
		x := rand.New(rand.NewSource(seed))
		many := 1 + x.Intn(9)
		r := begun(t, 12, 1+x.Intn(6))
		payloads := tangle(x, many)
		for l := range many {
			r.page(payloads[l])
		}
		for l := range many + 1 {
			pages, value, want := judge(payloads, l)
			if want != api.OK {
				r.refused(l, want)
				continue
			}
			r.gets(l, value)
			r.goes(l, pages...)
			if x.Intn(4) == 0 {
				r.drops(l, api.OK)
				for _, i := range pages {
					delete(payloads, i)
				}
			}
		}
		for l := range many {
			if _, is := payloads[l]; is != slices.Contains(r.s.Pages(), l) {
				t.Error("page", l, is)
			}
		}
		if t.Failed() {
			t.Fatal("seed", seed)
		}
	}
}

// TestAnyPage: payloads of any bytes.
func TestAnyPage(t *testing.T) {
	x := rand.New(rand.NewSource(3))
	r := begun(t, 12, 2)
	for i := range 3000 {
		b := make([]byte, x.Intn(233))
		for j := range b {
			b[j] = byte(x.Intn(256))
		}
		if len(b) > 1 && i%2 == 0 {
			b[0], b[1] = 0, 0
		}
		if len(b) > 2 && i%3 > 0 {
			b[2] = 0
		}
		l := r.page(string(b))
		pages, value, want := judge(map[int]string{l: full(string(b))}, l)
		got, e := chain.Get(r.p, l)
		told, f := chain.Pages(r.p, l)
		if got != value || e != want || !slices.Equal(told, pages) || f != want {
			t.Fatal(b, got, int(e), told, int(f))
		}
		r.does("Drop", r.p.Drop(l))
	}
}
