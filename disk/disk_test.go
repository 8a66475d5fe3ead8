package disk_test

import (
	"bytes"
	"fmt"
	"math"
	"math/rand"
	"testing"

	"cringle/api"
	"cringle/disk"
)

// words is a disk as the chapter words it: of each file what it is now, what it was as it was synced last, and to how many bytes it was truncated since, at the least.
type words struct {
	room   int
	on     bool
	root   int
	now    [2]string
	synced [2]string
	cut    [2]int // -1: none waits
	fuse   int
	behind bool
}

func newWords(room int) *words {
	return &words{room: room, on: true, cut: [2]int{-1, -1}, fuse: -1}
}

func (w *words) left() int { return w.room - len(w.now[0]) - len(w.now[1]) }

// step is one call on a disk.
type step struct {
	call string
	file int
	text string
	n    int
	flag bool
	loss disk.Loss
}

func (w *words) do(s step) api.Errno {
	switch s.call {
	case "arm":
		w.fuse, w.behind = s.n, s.flag
		return api.OK
	case "fail":
		w.on = false
		return api.OK
	case "start":
		return w.start(s.loss)
	}
	if s.file != 0 && s.file != 1 {
		return api.ErrArg
	}
	if !w.on {
		return api.ErrDown
	}
	if s.call == "append" && len(w.now[0])+len(w.now[1])+len(s.text) > w.room {
		return api.ErrFull
	}
	if s.call == "truncate" && (s.n < 0 || s.n > len(w.now[s.file])) {
		return api.ErrArg
	}
	fails := w.fuse == 0
	if !fails || w.behind {
		w.act(s)
	}
	w.on = !fails
	if fails {
		return api.ErrDown
	}
	w.fuse--
	return api.OK
}

func (w *words) act(s step) {
	i := s.file
	switch s.call {
	case "append":
		w.now[i] += s.text
	case "sync":
		w.synced[i], w.cut[i] = w.now[i], -1
	case "truncate":
		w.now[i] = w.now[i][:s.n]
		if s.n < len(w.synced[i]) && (w.cut[i] < 0 || s.n < w.cut[i]) {
			w.cut[i] = s.n
		}
	case "switch":
		w.root = i
	}
}

func (w *words) start(l disk.Loss) api.Errno {
	if w.on {
		return api.ErrState
	}
	w.on, w.fuse = true, -1
	for i := range w.now {
		sure := w.synced[i]
		if w.cut[i] >= 0 && l.Cut[i] {
			sure = sure[:w.cut[i]]
		}
		since := ""
		if w.cut[i] < 0 || l.Cut[i] {
			since = w.now[i][len(sure):]
			since = since[:min(max(l.Keep[i], 0), len(since))]
		}
		w.now[i] = sure + since
		w.synced[i], w.cut[i] = w.now[i], -1
	}
	return api.OK
}

// do is the same step on a disk.
func do(d *disk.Disk, s step) api.Errno {
	switch s.call {
	case "append":
		return d.Append(s.file, []byte(s.text))
	case "sync":
		return d.Sync(s.file)
	case "truncate":
		return d.Truncate(s.file, s.n)
	case "switch":
		return d.Switch(s.file)
	case "arm":
		d.Arm(s.n, s.flag)
	case "fail":
		d.Fail()
	case "start":
		return d.Start(s.loss)
	}
	return api.OK
}

// unlike tells where a disk answers otherwise than the words, if it does.
func unlike(d *disk.Disk, w *words) string {
	want := api.OK
	if !w.on {
		want = api.ErrDown
	}
	root := w.root
	if !w.on {
		root = 0
	}
	if got, why := d.Root(); got != root || why != want {
		return fmt.Sprintf("root %d %d, want %d %d", got, why, root, want)
	}
	for i := range w.now {
		text := w.now[i]
		if !w.on {
			text = ""
		}
		if got, why := d.Read(i); string(got) != text || why != want {
			return fmt.Sprintf("file %d: %q %d, want %q %d", i, got, why, text, want)
		}
	}
	if d.Left() != w.left() || d.On() != w.on {
		return fmt.Sprintf("left %d, on %v, want %d, %v", d.Left(), d.On(), w.left(), w.on)
	}
	return ""
}

func made(t *testing.T, room int) *disk.Disk {
	t.Helper()
	d, why := disk.New(room)
	if d == nil || why != api.OK {
		t.Fatal(room, d, why)
	}
	return d
}

func good(t *testing.T, whys ...api.Errno) {
	t.Helper()
	for i, why := range whys {
		if why != api.OK {
			t.Fatal(i, why)
		}
	}
}

func has(t *testing.T, d *disk.Disk, file int, want string) {
	t.Helper()
	if got, why := d.Read(file); string(got) != want || why != api.OK {
		t.Fatalf("file %d: %q %d, want %q", file, got, why, want)
	}
}

// P9.1
func TestNew(t *testing.T) {
	for _, room := range []int{1, 2, 100, api.MaxRoom - 1, api.MaxRoom} {
		d := made(t, room)
		if bad := unlike(d, newWords(room)); bad != "" {
			t.Error(room, bad)
		}
	}
	for _, room := range []int{math.MinInt, -1, 0, api.MaxRoom + 1, math.MaxInt} {
		if d, why := disk.New(room); d != nil || why != api.ErrArg {
			t.Error(room, d, why)
		}
	}
	if one, other := made(t, 5), made(t, 5); one.Append(0, []byte("a")) != api.OK || other.Left() != 5 {
		t.Error("two disks are one")
	}
}

// calls are all calls on a file, as functions of its number.
func calls(d *disk.Disk) map[string]func(file int) api.Errno {
	return map[string]func(file int) api.Errno{
		"append":   func(file int) api.Errno { return d.Append(file, []byte("x")) },
		"overfull": func(file int) api.Errno { return d.Append(file, make([]byte, 1000)) },
		"sync":     d.Sync,
		"truncate": func(file int) api.Errno { return d.Truncate(file, 1) },
		"below":    func(file int) api.Errno { return d.Truncate(file, -1) },
		"above":    func(file int) api.Errno { return d.Truncate(file, 1000) },
		"switch":   d.Switch,
		"read": func(file int) api.Errno {
			b, why := d.Read(file)
			if b != nil {
				return -1
			}
			return why
		},
	}
}

// P9.1: a number of no file, ahead of a power that is off, ahead of what else a call refuses.
func TestFileNumbers(t *testing.T) {
	for _, off := range []bool{false, true} {
		d, w := fuseDisk(t)
		if off {
			d.Fail()
			w.on = false
		}
		for name, call := range calls(d) {
			for _, file := range []int{math.MinInt, -2, -1, 2, 3, math.MaxInt} {
				if why := call(file); why != api.ErrArg {
					t.Error(off, name, file, why)
				}
			}
			for file := range 2 {
				if off && call(file) != api.ErrDown {
					t.Error(name, file, call(file))
				}
			}
			if bad := unlike(d, w); bad != "" {
				t.Error(off, name, bad)
			}
		}
	}
}

// P9.1
func TestAppend(t *testing.T) {
	d := made(t, 5)
	good(t, d.Append(0, nil), d.Append(0, []byte("ab")), d.Append(1, []byte("x")), d.Append(0, []byte("c")))
	has(t, d, 0, "abc")
	has(t, d, 1, "x")
	for file := range 2 {
		if why := d.Append(file, []byte("yz")); why != api.ErrFull {
			t.Error(file, why)
		}
	}
	good(t, d.Append(1, []byte{0}), d.Append(0, nil), d.Append(1, []byte{}))
	has(t, d, 0, "abc")
	has(t, d, 1, "x\x00")
	if why := d.Append(0, []byte("d")); why != api.ErrFull || d.Left() != 0 {
		t.Error(why, d.Left())
	}
	great := made(t, api.MaxRoom)
	good(t, great.Append(0, make([]byte, api.MaxRoom-1)))
	if why := great.Append(1, make([]byte, 2)); why != api.ErrFull || great.Left() != 1 {
		t.Error(why, great.Left())
	}
	good(t, great.Append(1, make([]byte, 1)))
}

// P9.1: what is truncated is room again, also ahead of a sync.
func TestRoomAgain(t *testing.T) {
	d := made(t, 4)
	good(t, d.Append(0, []byte("abcd")), d.Sync(0), d.Truncate(0, 1), d.Append(1, []byte("xyz")))
	if d.Left() != 0 {
		t.Error(d.Left())
	}
	if why := d.Append(0, []byte("b")); why != api.ErrFull {
		t.Error(why)
	}
}

// P9.1
func TestTruncate(t *testing.T) {
	d := made(t, 9)
	good(t, d.Append(1, []byte("abcdef")))
	for _, size := range []int{math.MinInt, -1, 7, 9, math.MaxInt} {
		if why := d.Truncate(1, size); why != api.ErrArg {
			t.Error(size, why)
		}
		has(t, d, 1, "abcdef")
	}
	for _, size := range []int{6, 5, 5, 1, 0, 0} {
		good(t, d.Truncate(1, size))
		has(t, d, 1, "abcdef"[:size])
		if d.Left() != 9-size {
			t.Error(size, d.Left())
		}
	}
	if why := d.Truncate(1, 1); why != api.ErrArg {
		t.Error(why)
	}
	good(t, d.Append(1, []byte("gh")))
	has(t, d, 1, "gh")
}

// P9.1
func TestSwitch(t *testing.T) {
	d := made(t, 9)
	for _, file := range []int{0, 1, 1, 0, 1} {
		good(t, d.Switch(file))
		if root, why := d.Root(); root != file || why != api.OK {
			t.Error(file, root, why)
		}
	}
	for _, file := range []int{-1, 2} {
		if why := d.Switch(file); why != api.ErrArg {
			t.Error(file, why)
		}
	}
	if root, _ := d.Root(); root != 1 {
		t.Error(root)
	}
}

// P9.1: while the power is off nothing is told but how much room is left.
func TestOff(t *testing.T) {
	d := made(t, 9)
	good(t, d.Append(0, []byte("ab")), d.Switch(1))
	d.Fail()
	if root, why := d.Root(); root != 0 || why != api.ErrDown {
		t.Error(root, why)
	}
	if b, why := d.Read(0); b != nil || why != api.ErrDown {
		t.Error(b, why)
	}
	if d.On() || d.Left() != 7 {
		t.Error(d.On(), d.Left())
	}
}

// P9.1: what is handed in is not kept, and what is answered is the caller's.
func TestOwn(t *testing.T) {
	d := made(t, 20)
	b := []byte("abcd")
	good(t, d.Append(0, b[:3]))
	b[0], b[3] = 'X', 'Y'
	has(t, d, 0, "abc")
	got, _ := d.Read(0)
	got[1] = 'Z'
	_ = append(got[:2], "QQQQ"...)
	has(t, d, 0, "abc")
	good(t, d.Append(0, []byte("def")))
	if string(got) != "aZQ" && string(got) != "aZc" {
		t.Error(string(got))
	}
	good(t, d.Sync(0))
	whole, _ := d.Read(0)
	clear(whole)
	good(t, d.Truncate(0, 2))
	d.Fail()
	good(t, d.Start(disk.Loss{}))
	has(t, d, 0, "abcdef")
	if string(b) != "XbcY" {
		t.Error(string(b))
	}
}

// fuseDisk is a disk ahead of a fuse, as it is and as the chapter words it.
func fuseDisk(t *testing.T) (*disk.Disk, *words) {
	d, w := made(t, 10), newWords(10)
	for _, s := range []step{
		{call: "append", file: 0, text: "abc"}, {call: "sync", file: 0}, {call: "append", file: 0, text: "d"},
		{call: "append", file: 1, text: "xy"},
	} {
		good(t, do(d, s), w.do(s))
	}
	return d, w
}

// P9.2: at the act behind so many the power goes off, ahead of it or behind it, whatever act it is.
func TestArm(t *testing.T) {
	acts := []step{
		{call: "append", file: 1, text: "z"}, {call: "append", file: 0}, {call: "sync", file: 0},
		{call: "truncate", file: 0, n: 2}, {call: "truncate", file: 0, n: 4}, {call: "switch", file: 1}, {call: "switch", file: 0},
	}
	for _, last := range acts {
		for count := range 4 {
			for _, behind := range []bool{false, true} {
				d, w := fuseDisk(t)
				d.Arm(count, behind)
				for i := range count {
					s := step{call: "append", file: i % 2, text: "-"}
					good(t, do(d, s), w.do(s))
				}
				if !d.On() {
					t.Fatal(last, count, "off too soon")
				}
				if behind {
					good(t, w.do(last))
				}
				if why := do(d, last); why != api.ErrDown || d.On() {
					t.Fatal(last, count, behind, why, d.On())
				}
				w.on = false
				all := disk.Loss{Keep: [2]int{9, 9}, Cut: [2]bool{true, true}}
				good(t, d.Start(all), w.start(all))
				if bad := unlike(d, w); bad != "" {
					t.Error(last, count, behind, bad)
				}
			}
		}
	}
}

// P9.2: what is refused, and what turns nothing, does not burn the fuse.
func TestFuseCounts(t *testing.T) {
	d := made(t, 5)
	d.Arm(1, false)
	for range 5 {
		d.Append(2, nil)
		d.Append(0, make([]byte, 6))
		d.Truncate(0, 1)
		d.Truncate(0, -1)
		d.Sync(-1)
		d.Switch(2)
		d.Read(0)
		d.Root()
		d.Left()
		if d.Start(disk.Loss{}) != api.ErrState || !d.On() {
			t.Fatal("it burnt")
		}
	}
	good(t, d.Append(0, []byte("ab")))
	for _, why := range []api.Errno{d.Append(0, []byte("abcd")), d.Truncate(0, 3), d.Sync(2)} {
		if why == api.OK || why == api.ErrDown {
			t.Error(why)
		}
	}
	if !d.On() {
		t.Fatal("off at what was refused")
	}
	if why := d.Sync(0); why != api.ErrDown || d.On() {
		t.Error(why)
	}
	for _, why := range []api.Errno{d.Append(0, []byte("c")), d.Sync(0), d.Truncate(0, 9), d.Switch(1)} {
		if why != api.ErrDown {
			t.Error(why)
		}
	}
}

// P9.2: below 0 there is no fuse; a new one is there in place of the old one; Start takes it away.
func TestNoFuse(t *testing.T) {
	for _, acts := range []int{-1, -2, math.MinInt} {
		d := made(t, 100)
		d.Arm(0, true)
		d.Arm(acts, true)
		for range 50 {
			good(t, d.Append(0, []byte("a")))
		}
	}
	d := made(t, 100)
	d.Arm(math.MaxInt, false)
	good(t, d.Sync(0))
	d.Arm(0, false)
	d.Arm(2, true)
	good(t, d.Append(1, nil), d.Append(1, nil))
	if why := d.Append(1, []byte("a")); why != api.ErrDown {
		t.Error(why)
	}
	d.Arm(0, false)
	good(t, d.Start(disk.Loss{Keep: [2]int{0, 1}}))
	has(t, d, 1, "a")
	good(t, d.Append(1, []byte("b")), d.Sync(1))
	d.Arm(3, false)
	d.Fail()
	good(t, d.Start(disk.Loss{}))
	for range 5 {
		good(t, d.Sync(0))
	}
	has(t, d, 1, "ab")
}

// P9.2
func TestFail(t *testing.T) {
	d := made(t, 9)
	d.Fail()
	d.Fail()
	if d.On() {
		t.Error("on")
	}
	good(t, d.Start(disk.Loss{}))
	if !d.On() {
		t.Error("off")
	}
	if why := d.Start(disk.Loss{}); why != api.ErrState {
		t.Error(why)
	}
}

// P9.2: the chapter's example, and all else that a loss may leave of one file.
func TestStart(t *testing.T) {
	appended := []step{{call: "append", text: "ab"}, {call: "sync"}, {call: "append", text: "cd"}}
	never := []step{{call: "append", text: "ab"}}
	cut := []step{{call: "append", text: "abcd"}, {call: "sync"}, {call: "truncate", n: 1}, {call: "append", text: "XYZ"}}
	least := []step{{call: "append", text: "abcd"}, {call: "sync"}, {call: "truncate", n: 1}, {call: "append", text: "XYZ"}, {call: "truncate", n: 3}}
	deeper := []step{{call: "append", text: "abcd"}, {call: "sync"}, {call: "truncate", n: 3}, {call: "append", text: "X"}, {call: "truncate", n: 1}}
	notBelow := []step{{call: "append", text: "ab"}, {call: "sync"}, {call: "append", text: "cd"}, {call: "truncate", n: 2}, {call: "append", text: "XY"}}
	synced := []step{{call: "append", text: "abcd"}, {call: "sync"}, {call: "truncate", n: 1}, {call: "sync"}, {call: "append", text: "X"}}
	none := []step{{call: "append", text: "abcd"}, {call: "sync"}, {call: "truncate", n: 0}}
	same := []step{{call: "append", text: "ab"}, {call: "sync"}, {call: "truncate", n: 1}, {call: "append", text: "b"}}
	for _, one := range []struct {
		name  string
		steps []step
		keep  int
		cut   bool
		want  string
	}{
		{"example", appended, 1, false, "abc"}, {"all", appended, 2, false, "abcd"}, {"more", appended, 3, false, "abcd"},
		{"most", appended, math.MaxInt, false, "abcd"}, {"no", appended, 0, false, "ab"}, {"below", appended, -1, false, "ab"},
		{"least of all", appended, math.MinInt, false, "ab"}, {"no cut", appended, 1, true, "abc"},
		{"never", never, 0, false, ""}, {"never", never, 1, true, "a"}, {"never", never, 5, false, "ab"},
		{"not cut", cut, 0, false, "abcd"}, {"not cut", cut, 2, false, "abcd"}, {"cut", cut, 0, true, "a"},
		{"cut", cut, 2, true, "aXY"}, {"cut", cut, 9, true, "aXYZ"}, {"cut", cut, -9, true, "a"},
		{"least", least, 0, true, "a"}, {"least", least, 1, true, "aX"}, {"least", least, 3, true, "aXY"}, {"least", least, 3, false, "abcd"},
		{"deeper", deeper, 3, true, "a"}, {"deeper", deeper, 3, false, "abcd"},
		{"not below", notBelow, 1, false, "abX"}, {"not below", notBelow, 1, true, "abX"}, {"not below", notBelow, 0, false, "ab"},
		{"synced", synced, 0, false, "a"}, {"synced", synced, 1, false, "aX"}, {"synced", synced, 1, true, "aX"},
		{"none", none, 1, true, ""}, {"none", none, 1, false, "abcd"},
		{"same", same, 0, false, "ab"}, {"same", same, 0, true, "a"}, {"same", same, 1, true, "ab"},
	} {
		for file := range 2 {
			d := made(t, 20)
			good(t, d.Append(1-file, []byte("other")), d.Sync(1-file))
			for _, s := range one.steps {
				s.file = file
				good(t, do(d, s))
			}
			d.Fail()
			var l disk.Loss
			l.Keep[file], l.Cut[file] = one.keep, one.cut
			good(t, d.Start(l))
			if got, why := d.Read(file); string(got) != one.want || why != api.OK {
				t.Errorf("%s %d %v: %q %d, want %q", one.name, one.keep, one.cut, got, why, one.want)
			}
			has(t, d, 1-file, "other")
			d.Fail()
			good(t, d.Start(disk.Loss{Cut: [2]bool{true, true}}))
			has(t, d, file, one.want)
		}
	}
}

// P9.2: a loss may bring back more than there is room for; then nothing is appended, not even nothing.
func TestOverfull(t *testing.T) {
	d := made(t, 4)
	good(t, d.Append(0, []byte("abcd")), d.Sync(0), d.Truncate(0, 0), d.Append(1, []byte("xyz")), d.Sync(1))
	d.Fail()
	good(t, d.Start(disk.Loss{}))
	has(t, d, 0, "abcd")
	has(t, d, 1, "xyz")
	if d.Left() != -3 || d.Append(0, nil) != api.ErrFull || d.Append(1, []byte("a")) != api.ErrFull {
		t.Error(d.Left())
	}
	good(t, d.Truncate(0, 1), d.Append(0, nil))
	if d.Left() != 0 {
		t.Error(d.Left())
	}
}

// P9.3
func TestNil(t *testing.T) {
	for _, d := range []*disk.Disk{nil, {}} {
		for range 2 {
			for name, call := range calls(d) {
				for _, file := range []int{-1, 0, 1, 2} {
					if why := call(file); why != api.ErrNil {
						t.Error(name, file, why)
					}
				}
			}
			if root, why := d.Root(); root != 0 || why != api.ErrNil {
				t.Error(root, why)
			}
			if d.Left() != 0 || d.On() {
				t.Error(d.Left(), d.On())
			}
			if why := d.Start(disk.Loss{}); why != api.ErrNil {
				t.Error(why)
			}
			d.Arm(0, true)
			d.Fail()
		}
	}
}

// losses are ways in which a loss may go.
func losses() []disk.Loss {
	var all []disk.Loss
	for _, keep := range []int{-1, 0, 1, 2, 9} {
		for _, cut := range []bool{false, true} {
			all = append(all, disk.Loss{Keep: [2]int{keep, 1}, Cut: [2]bool{cut, !cut}})
		}
	}
	return all
}

// P9.1, P9.2: all short lists of acts, and any loss behind them, against the chapter's words.
func TestShort(t *testing.T) {
	alphabet := []step{
		{call: "append", text: "ab"}, {call: "append", text: "c"}, {call: "append", file: 1, text: "xyz"}, {call: "sync"},
		{call: "truncate", n: 0}, {call: "truncate", n: 1}, {call: "truncate", n: 2}, {call: "switch", file: 1},
	}
	var run func(steps []step)
	run = func(steps []step) {
		for _, l := range losses() {
			d, w := made(t, 6), newWords(6)
			for _, s := range append(steps[:len(steps):len(steps)], step{call: "fail"}, step{call: "start", loss: l}) {
				if got, want := do(d, s), w.do(s); got != want {
					t.Fatal(steps, s, got, want)
				}
			}
			if bad := unlike(d, w); bad != "" {
				t.Fatal(steps, l, bad)
			}
		}
		if len(steps) < 5 {
			for _, s := range alphabet {
				run(append(steps[:len(steps):len(steps)], s))
			}
		}
	}
	run(nil)
}

// anyStep is a step taken by chance: most are in order, and some are not.
func anyStep(chance *rand.Rand, w *words) step {
	file := chance.Intn(2)
	if chance.Intn(40) == 0 {
		file = []int{-1, 2}[file]
	}
	size := 0
	if file == 0 || file == 1 {
		size = len(w.now[file])
	}
	switch n := chance.Intn(100); {
	case n < 35:
		text := make([]byte, chance.Intn(6))
		chance.Read(text)
		return step{call: "append", file: file, text: string(text)}
	case n < 50:
		return step{call: "sync", file: file}
	case n < 75:
		return step{call: "truncate", file: file, n: size - chance.Intn(5) + chance.Intn(2)}
	case n < 80:
		return step{call: "switch", file: file}
	case n < 84:
		return step{call: "arm", n: chance.Intn(12) - 1, flag: chance.Intn(2) == 0}
	case n < 88:
		return step{call: "fail"}
	}
	return step{call: "start", loss: disk.Loss{
		Keep: [2]int{chance.Intn(8) - 1, chance.Intn(8) - 1},
		Cut:  [2]bool{chance.Intn(2) == 0, chance.Intn(2) == 0},
	}}
}

// P9.4, P9.5, P9.6, P9.7: long runs of steps, against the chapter's words, and against what follows of them.
func TestLong(t *testing.T) {
	chance := rand.New(rand.NewSource(9))
	for range 200 {
		room := 1 + chance.Intn(40)
		d, w := made(t, room), newWords(room)
		for range 300 {
			was, s := *w, anyStep(chance, w)
			got, want := do(d, s), w.do(s)
			if got != want {
				t.Fatal(s, got, want)
			}
			if bad := unlike(d, w); bad != "" {
				t.Fatal(s, bad)
			}
			if got == api.ErrArg || got == api.ErrFull || got == api.ErrState {
				if bad := unlike(d, &was); bad != "" {
					t.Fatal(s, bad) // P9.7
				}
			}
			if s.call == "start" && got == api.OK {
				follows(t, d, &was)
			}
		}
	}
}

// follows holds what stands behind a loss against what was there ahead of it.
func follows(t *testing.T, d *disk.Disk, was *words) {
	t.Helper()
	for i, sure := range was.synced {
		b, _ := d.Read(i)
		if was.cut[i] < 0 && !bytes.HasPrefix(b, []byte(sure)) {
			t.Fatalf("P9.4: %q was synced, and is not in %q", sure, b)
		}
		whole := false
		for size := range len(sure) + 1 {
			since, begins := bytes.CutPrefix(b, []byte(sure[:size]))
			if begins && (len(since) == 0 || len(was.now[i]) >= size && bytes.HasPrefix([]byte(was.now[i][size:]), since)) {
				whole = true
			}
		}
		if !whole {
			t.Fatalf("P9.5: %q of %q and %q", b, sure, was.now[i])
		}
	}
	if root, _ := d.Root(); root != was.root {
		t.Fatalf("P9.6: %d, want %d", root, was.root)
	}
}

// P9.4: what was synced is there behind every loss, and what was not may not be.
func TestSynced(t *testing.T) {
	for _, l := range losses() {
		d := made(t, 20)
		good(t, d.Append(0, []byte("ab")), d.Append(0, []byte("cd")), d.Sync(0), d.Append(0, []byte("efg")), d.Truncate(0, 4))
		for range 3 {
			d.Fail()
			good(t, d.Start(l))
			has(t, d, 0, "abcd")
		}
	}
}

// P9.6
func TestRootStays(t *testing.T) {
	for _, behind := range []bool{false, true} {
		d := made(t, 20)
		good(t, d.Switch(1))
		d.Fail()
		good(t, d.Start(disk.Loss{}))
		if root, why := d.Root(); root != 1 || why != api.OK {
			t.Error(root, why)
		}
		d.Arm(0, behind)
		if why := d.Switch(0); why != api.ErrDown {
			t.Error(why)
		}
		good(t, d.Start(disk.Loss{}))
		if root, _ := d.Root(); (root == 0) != behind {
			t.Error(behind, root)
		}
	}
}

// P9.7: also what is sure, and which cut waits, stays as it was.
func TestRefused(t *testing.T) {
	refuse := func(d *disk.Disk) {
		for _, why := range []api.Errno{
			d.Append(0, make([]byte, 30)), d.Append(2, nil), d.Sync(2), d.Sync(-1), d.Truncate(0, -1), d.Truncate(0, 30),
			d.Truncate(2, 0), d.Switch(2), d.Start(disk.Loss{Keep: [2]int{9, 9}}),
		} {
			if why == api.OK {
				t.Error("not refused")
			}
		}
	}
	for _, cut := range []bool{false, true} {
		d := made(t, 20)
		good(t, d.Append(0, []byte("abcd")), d.Sync(0), d.Truncate(0, 2), d.Append(0, []byte("X")))
		refuse(d)
		d.Fail()
		for _, why := range []api.Errno{d.Append(0, nil), d.Sync(0), d.Truncate(0, 0), d.Switch(1)} {
			if why != api.ErrDown {
				t.Error(why)
			}
		}
		good(t, d.Start(disk.Loss{Cut: [2]bool{cut}}))
		has(t, d, 0, map[bool]string{false: "abcd", true: "ab"}[cut])
		if root, _ := d.Root(); root != 0 {
			t.Error(root)
		}
	}
}
