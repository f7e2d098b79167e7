package pool_test

import (
	"strconv"
	"strings"
	"testing"

	"horologe/api"
)

// digit is the number that a word's second letter says, if there is one.
func digit(word string) int {
	if len(word) < 2 {
		return -1
	}
	return int(word[1] - '0')
}

// digits are numbers below 10, one behind the other.
func digits(l []int) string {
	var b strings.Builder
	for _, x := range l {
		b.WriteString(strconv.Itoa(x))
	}
	return b.String()
}

// does does what a word says: a letter for the act, a digit for the page (or the frame); behind a colon which pages the frames have then.
func (r *rig) does(word string) {
	r.Helper()
	act, want, asks := strings.Cut(word, ":")
	l, e := digit(act), api.OK
	switch act[0] {
	case 'g': // Get
		_, e = r.p.Get(l)
	case 'h': // Hold
		_, e = r.p.Hold(l)
	case 'l': // Let
		e = r.p.Let(l)
	case 'p': // Put
		e = r.p.Put(l, "put")
	case 's': // Set
		e = r.p.Set(l, "set")
	case 'd': // Drop
		e = r.p.Drop(l)
	case 'e': // Evict
		e = r.p.Evict(l)
	case 'n': // New
		_, e = r.p.New("new")
	case 'c': // Commit
		e = r.p.Commit()
	case 'a': // Abort
		r.aborts()
	case 'x': // Hold, with no room in the pool
		r.holdsNot(l, api.ErrPool)
	case 'r': // Hold of no such page
		r.holdsNot(l, api.ErrRange)
	case 'f': // Hold, with no room on the disk for what is to go
		r.holdsNot(l, api.ErrFull)
	case 'F': // Evict, so
		r.evicts(l, api.ErrFull)
	default:
		r.Fatal(word)
	}
	if e != api.OK {
		r.Errorf("%s: error %d", word, int(e))
	}
	if got := digits(r.p.Pages()); asks && got != want {
		r.Errorf("%s: Pages = %s", word, got)
	}
}

// scene is what is done with a pool of so many frames, word by word.
type scene struct {
	name   string
	frames int
	acts   string
}

func (x scene) run(t *testing.T, begin func(t *testing.T, frames int) *rig) {
	t.Run(x.name, func(t *testing.T) {
		r := begin(t, x.frames)
		for _, word := range strings.Fields(x.acts) {
			r.does(word)
			if t.Failed() {
				t.Fatal("at", word, "of", x.acts)
			}
		}
	})
}

// TestHand: which frame goes, and where the hand stands then.
func TestHand(t *testing.T) {
	for _, x := range []scene{
		{"round", 3, "g0:0 g1:01 g2:012 g3:123 g4:234 g2:234 g5:345 g6:456"},
		{"one frame", 1, "g0:0 g1:1 g2:2 h2:2 x3:2 l2:2 g3:3 g0:0"},
		{"behind the last one at 0", 2, "g0 g1 g2:12 g3:23 g4:34 g5:45 g6:56 g7:67"},
		{"behind the last one at 0, which is not used", 3, "g0 g1 g2 g3:123 g4:234 g5:345 g6:456 g4:456 g7:467 g0:067"},
		{"got again is used", 3, "g0 g1 g2 g3:123 g1:123 g4:134"},
		{"put again is used", 3, "g0 g1 g2 g3:123 p1:123 g4:134"},
		{"held again is used", 3, "g0 g1 g2 g3:123 h1 l1:123 g4:134"},
		{"put at first is used", 3, "g0 g1 g2 p3:123 g4:234 g5:345 g6:456 g4:456 g7:467"},
		{"held at first is used", 3, "g0 g1 g2 h3 l3:123 g4:234 g5:345 g6:456 g4:456 g7:467"},
		{"held is passed, and still used", 3, "h0 g1 g2 g3:023 l0 g4:034 g5:345 g3:345 g6:356"},
		{"two are held", 4, "h0 h1 g2 g3 g4:0134 g5:0145 h4 h5 x6:0145 l5 g6:0146 l0 g7:1467"},
		{"all but the last one are held", 3, "h0 h1 g2 g3:013 g4:014 g5:015 l1 g6:056 g7:067"},
		{"all are held, and the hand stays", 3, "g0 g1 g2 g3:123 h1 h2 h3 x4:123 x5:123 l1 l2 l3 g4:234 g5:345"},
		{"all are held, and what was used stays so", 3, "g0 g1 g2 g3:123 h1 h2 h3 x4 l2 l1 l3 g2 g4:234 g1:134 g2:124"},
		{"an empty one first", 3, "g0 g1 g2 e1:02 e0:2 g3:23 g4:234 e0:24 e1:2 e2:"},
		{"an empty one first, and the hand stays", 3, "g0 g1 g2 g3:123 e2:13 g4:134 g5:345 g6:356"},
		{"the hand's one emptied, and the hand stays", 3, "g0 g1 g2 g3:123 e1:23 g4:234 g5:345 g6:356 g4:456"},
		{"the frame of what was dropped", 3, "g0 g1 g2 d1:02 g3:023 e1:02 g4:024 e1:02"},
		{"dropped, and the hand stays", 3, "g0 g1 g2 g3:123 d3:12 g4:124 g5:245 g6:456"},
		{"made, and nothing goes", 2, "g0 g1 n:01 g2:12 n:12 g3:23"},
		{"no such page, and nothing goes", 3, "g0 g1 g2 g3:123 r9:123 r9:123 g4:234 r9:234 g5:345 r9:345 g6:456 g4 r9 g7:467"},
		{"behind a commit", 3, "g0 g1 g2 g3:123 c:123 g4:234 g5:345 c g6:456 g4:456 c g7:467"},
		{"dirty ones behind a commit", 3, "p0 p1 p2 p3:123 c:123 p4:234 p5:345 c p6:456 p4:456 c p7:467"},
		{"behind an abort", 3, "g0 g1 g2 g3:123 a: g4:4 g5:45 g6:456 g7:467 g3:347"},
		{"held behind an abort", 3, "h0 h1 h2 x3 a: g3:3 g4:34 g5:345 g6:456 g7:567"},
	} {
		x.run(t, func(t *testing.T, frames int) *rig { return begun(t, 40, 8, frames) })
	}
}

// TestHandBehindErrors: behind an error of writing the hand has gone round, and what it has passed is not used.
func TestHandBehindErrors(t *testing.T) {
	for _, x := range []scene{
		{"one behind the other", 3, "p0 p1 g2 f3:012 f3:012 g3:013 f4:013 f4:013 f4:013 f4:013 g4:014"},
		{"passed is not used", 3, "p0 g1 g2 f3:012 g3:023 g4:034 f5:034 f5:034 g5:045"},
		{"used since is passed", 3, "p0 g1 g2 f3:012 g1:012 g3:013 f4:013 g4:034"},
		{"alone", 1, "p0 f1:0 f1:0 h0 x1:0 l0 f2:0"},
		{"held is passed", 3, "p0 h1 p2 f3:012 f3:012 f3:012 l1 f3:012 f3:012 g3:023"},
		{"held stays used", 3, "h0 p1 g2 f3:012 g3:013 l0 f4:013 g4:134"},
		{"all held", 2, "h0 h1 s0 s1 x2:01 l0 f2:01 l1 f2:01 f2:01"},
		{"an empty one first", 3, "p0 p1 g2:012 e2:01 g3:013 f4 f4 g4:014"},
		{"no such page, and the hand stays", 2, "p0 g1 r9:01 f2:01 r9:01 g2:02"},
		{"evicted in vain, and the hand stays", 3, "p0 g1 g2 F0:012 f3:012 F0:012 g3:023 F0 g4:034"},
		{"evicted in vain, and still used", 2, "p0 p1 F1 F0 f2:01 g0 f2 F0 d1 g2:02 f3:02 g3:03"},
		{"behind an abort", 2, "p0 g1 f2:01 a: g2 g3:23 g4:24 g5:45"},
	} {
		x.run(t, func(t *testing.T, frames int) *rig { return filled(t, 8, frames) })
	}
}
