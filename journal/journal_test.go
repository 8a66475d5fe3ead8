package journal_test

import (
	"bytes"
	"encoding/binary"
	"fmt"
	"hash/crc32"
	"math"
	"math/rand"
	"slices"
	"testing"

	"cringle/api"
	"cringle/disk"
	"cringle/journal"
)

// framed is a frame as the chapter words it, also of what is no record.
func framed(rec string) string {
	size := binary.BigEndian.AppendUint32(nil, uint32(len(rec)))
	check := binary.BigEndian.AppendUint32(nil, crc32.ChecksumIEEE(append(bytes.Clone(size), rec...)))
	return string(size) + string(check) + rec
}

func framedAll(recs []string) string {
	all := ""
	for _, rec := range recs {
		all += framed(rec)
	}
	return all
}

// records is what a file has, by the chapter's words: at each place a record is tried of every size there may be.
func records(file string) ([]string, int) {
	var recs []string
	at := 0
	for {
		found := false
		for size := 1; size <= api.MaxRecord && at+8+size <= len(file); size++ {
			rec := file[at+8 : at+8+size]
			if file[at:at+8+size] == framed(rec) {
				recs, at, found = append(recs, rec), at+8+size, true
				break
			}
		}
		if !found {
			return recs, at
		}
	}
}

func lists(recs []string) [][]byte {
	var all [][]byte
	for _, rec := range recs {
		all = append(all, []byte(rec))
	}
	return all
}

func texts(recs [][]byte) []string {
	var all []string
	for _, rec := range recs {
		all = append(all, string(rec))
	}
	return all
}

func made(t *testing.T, room int) *disk.Disk {
	t.Helper()
	d, why := disk.New(room)
	if d == nil || why != api.OK {
		t.Fatal(room, d, why)
	}
	return d
}

// laid is a disk with these files, all sure, and this root.
func laid(t *testing.T, room, root int, live, other string) *disk.Disk {
	t.Helper()
	d := made(t, room)
	good(t, d.Append(root, []byte(live)), d.Append(1-root, []byte(other)), d.Sync(0), d.Sync(1), d.Switch(root))
	return d
}

func good(t *testing.T, whys ...api.Errno) {
	t.Helper()
	for i, why := range whys {
		if why != api.OK {
			t.Fatal(i, why)
		}
	}
}

func opened(t *testing.T, d *disk.Disk) (*journal.Journal, []string) {
	t.Helper()
	j, recs, why := journal.Open(d)
	if j == nil || why != api.OK {
		t.Fatal(j, why)
	}
	return j, texts(recs)
}

func commit(t *testing.T, j *journal.Journal, recs ...string) {
	t.Helper()
	good(t, j.Add(lists(recs)...), j.Commit())
}

// files are the root, the live file and the other one.
func files(t *testing.T, d *disk.Disk) (int, string, string) {
	t.Helper()
	root, why := d.Root()
	good(t, why)
	live, why := d.Read(root)
	good(t, why)
	other, why := d.Read(1 - root)
	good(t, why)
	return root, string(live), string(other)
}

func has(t *testing.T, d *disk.Disk, root int, live, other string) {
	t.Helper()
	if r, l, o := files(t, d); r != root || l != live || o != other {
		t.Fatalf("root %d, live %q, other %q; want %d, %q, %q", r, l, o, root, live, other)
	}
}

// acts is how many acts a call does on a disk, told by the longest fuse that burns down within it; the call is done anew each time.
func acts(t *testing.T, call func(fuse int) *disk.Disk) int {
	t.Helper()
	for fuse := range 20 {
		if call(fuse).On() {
			return fuse
		}
	}
	t.Fatal("no end of acts")
	return 0
}

// losses are ways in which a loss may go.
func losses() []disk.Loss {
	var all []disk.Loss
	for _, keep := range []int{-1, 0, 1, 7, 8, 9, 10, 12, 17, 18, 19, 1000} {
		for cuts := range 4 {
			all = append(all, disk.Loss{Keep: [2]int{keep, 1000 - keep}, Cut: [2]bool{cuts&1 != 0, cuts&2 != 0}})
			all = append(all, disk.Loss{Keep: [2]int{1000 - keep, keep}, Cut: [2]bool{cuts&1 != 0, cuts&2 != 0}})
		}
	}
	return all
}

// P10.1
func TestFrame(t *testing.T) {
	b, why := journal.Frame([]byte("a"))
	if want := "\x00\x00\x00\x01\xe5\x8c\x97\x92a"; why != api.OK || string(b) != want {
		t.Errorf("%x %d, want %x", b, why, want)
	}
	b, why = journal.Frame([]byte{0})
	if want := framed("\x00"); why != api.OK || string(b) != want {
		t.Errorf("%x %d, want %x", b, why, want)
	}
	chance := rand.New(rand.NewSource(10))
	for _, size := range []int{1, 2, 3, 4, 7, 8, 9, 255, 256, 257, 4095, 4096, api.MaxRecord - 1, api.MaxRecord} {
		rec := make([]byte, size)
		chance.Read(rec)
		if b, why := journal.Frame(rec); why != api.OK || string(b) != framed(string(rec)) {
			t.Error(size, why, len(b))
		}
	}
	for _, size := range []int{0, api.MaxRecord + 1, api.MaxRecord + 2, 1 << 16, 1 << 20} {
		if b, why := journal.Frame(make([]byte, size)); b != nil || why != api.ErrArg {
			t.Error(size, why, len(b))
		}
	}
	if b, why := journal.Frame(nil); b != nil || why != api.ErrArg {
		t.Error(b, why)
	}
}

// P10.1, R4
func TestFrameIsNew(t *testing.T) {
	rec := []byte("abcd")
	b, _ := journal.Frame(rec[:3])
	clear(b)
	if string(rec) != "abcd" {
		t.Error(string(rec))
	}
	b, _ = journal.Frame(rec[:3])
	clear(rec)
	if string(b) != framed("abc") {
		t.Errorf("%q", b)
	}
}

func scans(t *testing.T, file string, want []string, size int) {
	t.Helper()
	recs, n := journal.Scan([]byte(file))
	if !slices.Equal(texts(recs), want) || n != size {
		t.Errorf("%d records, %d bytes, want %d and %d, of %q", len(recs), n, len(want), size, file[:min(len(file), 60)])
	}
}

// P10.1
func TestScan(t *testing.T) {
	longest := string(bytes.Repeat([]byte("xyz"), api.MaxRecord))[:api.MaxRecord]
	for _, recs := range [][]string{nil, {"a"}, {"a", "b"}, {"abc"}, {"\x00"}, {"a", "a", "a"}, {longest}, {"a", longest, "b"}, {framed("a")}} {
		file := framedAll(recs)
		scans(t, file, recs, len(file))
		for _, tail := range []string{"\x00", "\x00\x00\x00\x01", framed("zz")[:9], framed("zz")[:8], "zz", framed(""), framed(longest + "x")} {
			scans(t, file+tail, recs, len(file))
			scans(t, file+tail+framed("b"), recs, len(file))
		}
	}
	scans(t, "", nil, 0)
}

// P10.1: what is no record has no frame, even with a right sum; a sum of other bytes, or laid otherwise, is not right.
func TestScanNoFrame(t *testing.T) {
	plain := framed("abc")
	alone := binary.BigEndian.AppendUint32([]byte{0, 0, 0, 3}, crc32.ChecksumIEEE([]byte("abc")))
	for _, file := range []string{
		framed(""), framed(string(make([]byte, api.MaxRecord+1))), framed(string(make([]byte, 1<<17))),
		"\xff\xff\xff\xff\x00\x00\x00\x00abc", "\x80\x00\x00\x00\x00\x00\x00\x00abc", "\x80\x00\x00\x03" + plain[4:],
		string(alone) + "abc", plain[4:8] + plain[:4] + "abc", "\x03\x00\x00\x00" + plain[4:],
		plain[:4] + string([]byte{plain[7], plain[6], plain[5], plain[4]}) + "abc",
		string(make([]byte, 8)), string(make([]byte, 100)), string(bytes.Repeat([]byte{0xff}, 100)), "x" + plain,
	} {
		scans(t, file, nil, 0)
		scans(t, file+plain, nil, 0)
		scans(t, plain+file, []string{"abc"}, len(plain))
	}
}

// P10.1: a file that ends anywhere has the records whose frames are whole.
func TestScanCut(t *testing.T) {
	recs := []string{"a", "bcd", framed("x"), "\x00\x00\x00\x01"}
	file := framedAll(recs)
	for size := range len(file) + 1 {
		whole, bytes := 0, 0
		for whole < len(recs) && bytes+8+len(recs[whole]) <= size {
			bytes += 8 + len(recs[whole])
			whole++
		}
		scans(t, file[:size], recs[:whole], bytes)
	}
}

// P10.1: a byte that is another one ends the records there, whichever it is.
func TestScanTurned(t *testing.T) {
	recs := []string{"a", "bcd", "efghi"}
	file := framedAll(recs)
	ends := []int{9, 20, 33}
	for i := range len(file) {
		for turn := 1; turn < 256; turn++ {
			b := []byte(file)
			b[i] ^= byte(turn)
			whole, size := 0, 0
			for ends[whole] <= i {
				size = ends[whole]
				whole++
			}
			scans(t, string(b), recs[:whole], size)
		}
	}
}

// P10.1: files laid by chance, against the chapter's words.
func TestScanAsWorded(t *testing.T) {
	chance := rand.New(rand.NewSource(101))
	for range 3000 {
		file := ""
		for range chance.Intn(6) {
			part := framed(string(pick(chance, chance.Intn(12))))
			switch chance.Intn(8) {
			case 0:
				part = part[chance.Intn(len(part)):]
			case 1:
				part = part[:chance.Intn(len(part))]
			case 2:
				part = string(pick(chance, chance.Intn(12)))
			}
			file += part
		}
		want, size := records(file)
		scans(t, file, want, size)
	}
}

// pick are bytes taken by chance, mostly those of short numbers.
func pick(chance *rand.Rand, size int) []byte {
	b := make([]byte, size)
	chance.Read(b)
	for i := range b {
		if chance.Intn(2) == 0 {
			b[i] &= 3
		}
	}
	return b
}

// P10.1, R4: the records are the caller's, and share nothing.
func TestScanIsNew(t *testing.T) {
	file := []byte(framed("ab") + framed("cd"))
	recs, _ := journal.Scan(file)
	_ = append(recs[0], "XXXXXXXXXXXXXXX"...)
	recs[0][0] = 'Y'
	if string(file) != framed("ab")+framed("cd") || string(recs[1]) != "cd" {
		t.Errorf("%q %q", file, recs)
	}
	clear(file)
	if string(recs[0]) != "Yb" || string(recs[1]) != "cd" {
		t.Errorf("%q", recs)
	}
}

// P10.2
func TestOpen(t *testing.T) {
	for root := range 2 {
		for _, live := range []string{"", framed("a"), framed("a") + framed("bcd")} {
			for _, tail := range []string{"", "x", framed("zz")[:9], framed("") + framed("z"), string(make([]byte, 30))} {
				for _, other := range []string{"", "y", framed("o"), string(make([]byte, 50))} {
					d := laid(t, 200, root, live+tail, other)
					j, recs := opened(t, d)
					want, _ := records(live)
					if !slices.Equal(recs, want) || j.Group() != 0 || j.Drop() != 0 {
						t.Errorf("%q, group %d", recs, j.Group())
					}
					has(t, d, root, live, "")
					if j.Size() != len(live) || j.Left() != 200-len(live) {
						t.Error(j.Size(), j.Left())
					}
					d.Fail()
					good(t, d.Start(disk.Loss{}))
					has(t, d, root, live, "") // it was synced
				}
			}
		}
	}
}

// P10.2: acts are done only where there is something to take away: the live file's first.
func TestOpenActs(t *testing.T) {
	for root := range 2 {
		for _, row := range []struct {
			tail, other string
			count       int
		}{{"", "", 0}, {"x", "", 2}, {"", "y", 2}, {"x", "y", 4}} {
			got := acts(t, func(fuse int) *disk.Disk {
				d := laid(t, 100, root, framed("a")+row.tail, row.other)
				d.Arm(fuse, false)
				j, recs, why := journal.Open(d)
				if d.On() {
					good(t, why)
				} else if j != nil || recs != nil || why != api.ErrDown {
					t.Error(row, fuse, j, recs, why)
				}
				return d
			})
			if got != row.count {
				t.Error(row, got)
			}
		}
		for fuse, want := range [][2]string{
			{framed("a") + "x", "y"}, {framed("a"), "y"}, {framed("a"), "y"}, {framed("a"), ""},
		} {
			d := laid(t, 100, root, framed("a")+"x", "y")
			d.Arm(fuse, false)
			if _, _, why := journal.Open(d); why != api.ErrDown {
				t.Error(fuse, why)
			}
			good(t, d.Start(disk.Loss{Cut: [2]bool{true, true}}))
			has(t, d, root, want[0], want[1])
		}
	}
}

// P10.2: the disk's first error ends it.
func TestOpenErrors(t *testing.T) {
	off := laid(t, 100, 1, framed("a"), "")
	off.Fail()
	for _, row := range []struct {
		d    *disk.Disk
		want api.Errno
	}{{nil, api.ErrNil}, {&disk.Disk{}, api.ErrNil}, {off, api.ErrDown}} {
		if j, recs, why := journal.Open(row.d); j != nil || recs != nil || why != row.want {
			t.Error(j, recs, why, row.want)
		}
	}
}

// P10.2: what is opened is no file's own.
func TestOpenIsNew(t *testing.T) {
	d := laid(t, 100, 0, framed("ab"), "")
	_, recs, _ := journal.Open(d)
	clear(recs[0])
	has(t, d, 0, framed("ab"), "")
}

// P10.3: the chapter's example.
func TestExample(t *testing.T) {
	for _, l := range losses() {
		d := made(t, 200)
		j, recs := opened(t, d)
		if len(recs) != 0 {
			t.Fatal(recs)
		}
		good(t, j.Add([]byte("a")), j.Commit(), j.Add([]byte("b")))
		d.Fail()
		good(t, d.Start(l))
		if _, recs := opened(t, d); !slices.Equal(recs, []string{"a"}) {
			t.Error(recs)
		}
	}
}

// P10.3
func TestAddAndCommit(t *testing.T) {
	for root := range 2 {
		d := laid(t, 100, root, framed("old"), "")
		j, _ := opened(t, d)
		good(t, j.Add([]byte("a"), []byte("bc")), j.Add(), j.Add([]byte("d")))
		has(t, d, root, framed("old"), "")
		if j.Group() != 9+10+9 || j.Size() != 11 || j.Left() != 89 {
			t.Error(j.Group(), j.Size(), j.Left())
		}
		good(t, j.Commit())
		want := framedAll([]string{"old", "a", "bc", "d"})
		has(t, d, root, want, "")
		if j.Group() != 0 || j.Size() != len(want) || j.Left() != 100-len(want) || j.Drop() != 0 {
			t.Error(j.Group(), j.Size(), j.Left())
		}
		commit(t, j, "e")
		d.Fail()
		good(t, d.Start(disk.Loss{}))
		has(t, d, root, want+framed("e"), "")
		if _, recs := opened(t, d); !slices.Equal(recs, []string{"old", "a", "bc", "d", "e"}) {
			t.Error(recs)
		}
	}
}

// P10.3: what is no record is refused, wherever it stands, ahead of what has no room, and none of the others is added.
func TestAddNoRecord(t *testing.T) {
	d := made(t, 50)
	j, _ := opened(t, d)
	good(t, j.Add([]byte("a")))
	long, wide := make([]byte, api.MaxRecord+1), make([]byte, api.MaxRecord)
	for _, recs := range [][][]byte{
		{nil}, {{}}, {long}, {nil, []byte("b")}, {[]byte("b"), nil}, {[]byte("b"), long, []byte("c")}, {wide, nil}, {nil, wide}, {wide, wide, long},
	} {
		if why := j.Add(recs...); why != api.ErrArg || j.Group() != 9 {
			t.Error(len(recs), why, j.Group())
		}
	}
	good(t, j.Commit())
	has(t, d, 0, framed("a"), "")
}

// P10.3: the group may have just as many bytes as are left, and not one more.
func TestAddRoom(t *testing.T) {
	for _, room := range []int{1, 8, 9, 10, 18, 19, 30, 100} {
		d := made(t, room)
		j, _ := opened(t, d)
		count := 0
		for j.Add([]byte("a")) == api.OK {
			count++
		}
		if count != room/9 || j.Group() != 9*count {
			t.Error(room, count, j.Group())
		}
		if why := j.Add([]byte("a")); why != api.ErrFull {
			t.Error(room, why)
		}
		good(t, j.Add(), j.Commit())
		if j.Size() != 9*count || j.Left() != room-9*count {
			t.Error(room, j.Size(), j.Left())
		}
	}
	d := made(t, 40)
	j, _ := opened(t, d)
	commit(t, j, "x")
	good(t, j.Add([]byte("y")))
	if why := j.Add([]byte("z"), []byte("zzzzzz")); why != api.ErrFull || j.Group() != 9 {
		t.Error(why, j.Group())
	}
	good(t, j.Add([]byte("z"), []byte("zzzzz")))
	if why := j.Add([]byte("z")); why != api.ErrFull || j.Group() != 31 {
		t.Error(why, j.Group())
	}
	good(t, j.Commit())
	if j.Left() != 0 || j.Size() != 40 {
		t.Error(j.Left(), j.Size())
	}
}

// P10.3: records of the greatest size, as many as a disk may have, and lists of far more than that.
func TestAddGreatest(t *testing.T) {
	d := made(t, api.MaxRoom)
	j, _ := opened(t, d)
	rec := bytes.Repeat([]byte("r"), api.MaxRecord)
	most := api.MaxRoom / (8 + api.MaxRecord)
	if why := j.Add(slices.Repeat([][]byte{rec}, 1<<20)...); why != api.ErrFull || j.Group() != 0 {
		t.Error(why, j.Group())
	}
	if why := j.Add(slices.Repeat([][]byte{rec}, most+1)...); why != api.ErrFull || j.Group() != 0 {
		t.Error(why, j.Group())
	}
	good(t, j.Add(slices.Repeat([][]byte{rec}, most)...), j.Commit())
	if _, recs := opened(t, d); len(recs) != most || recs[0] != string(rec) || recs[most-1] != string(rec) {
		t.Error(len(recs))
	}
}

// P10.3: what is left is asked of the disk, whoever took it.
func TestRoomTakenElsewhere(t *testing.T) {
	d := made(t, 30)
	j, _ := opened(t, d)
	good(t, j.Add([]byte("a")), j.Add([]byte("b")), d.Append(1, make([]byte, 13)))
	for _, why := range []api.Errno{j.Commit(), j.Add(), j.Add([]byte("c")), j.Commit()} {
		if why != api.ErrFull || j.Group() != 18 {
			t.Error(why, j.Group())
		}
	}
	has(t, d, 0, "", string(make([]byte, 13)))
	good(t, d.Truncate(1, 12), j.Add(), j.Commit())
	has(t, d, 0, framedAll([]string{"a", "b"}), string(make([]byte, 12)))
}

// P10.3, R4: what was handed in is neither kept nor written into.
func TestAddIsNew(t *testing.T) {
	d := made(t, 100)
	j, _ := opened(t, d)
	rec := []byte("abcd")
	recs := [][]byte{rec[:2], rec[2:]}
	good(t, j.Add(recs...))
	if string(rec) != "abcd" || len(recs) != 2 {
		t.Error(string(rec))
	}
	clear(rec)
	clear(recs)
	good(t, j.Commit())
	has(t, d, 0, framed("ab")+framed("cd"), "")
}

// P10.3: all frames of a group are appended at once, and then synced, however many there are; of an empty group nothing is done.
func TestCommitActs(t *testing.T) {
	for count := range 4 {
		got := acts(t, func(fuse int) *disk.Disk {
			d := made(t, 100)
			j, _ := opened(t, d)
			good(t, j.Add(slices.Repeat([][]byte{[]byte("a")}, count)...))
			d.Arm(fuse, false)
			if why := j.Commit(); d.On() != (why == api.OK) {
				t.Error(count, fuse, why)
			}
			return d
		})
		if got != min(2*count, 2) {
			t.Error(count, got)
		}
	}
}

// P10.3: with the disk's error the group stays.
func TestCommitErrors(t *testing.T) {
	group := framed("b") + framed("c")
	for _, row := range []struct {
		fuse   int
		behind bool
		want   string
	}{{0, false, framed("a")}, {0, true, framed("a") + group}, {1, false, framed("a") + group}, {1, true, framed("a") + group}} {
		d := laid(t, 100, 1, framed("a"), "")
		j, _ := opened(t, d)
		good(t, j.Add([]byte("b"), []byte("c")))
		d.Arm(row.fuse, row.behind)
		for range 2 {
			if why := j.Commit(); why != api.ErrDown || j.Group() != 18 {
				t.Error(row, why, j.Group())
			}
		}
		good(t, d.Start(disk.Loss{Keep: [2]int{99, 99}}))
		has(t, d, 1, row.want, "")
		if j.Drop() != 2 {
			t.Error(row)
		}
	}
}

// P10.3: while the power is off the group is what it was, and turns; of an empty one nothing is done, so nothing fails.
func TestOff(t *testing.T) {
	d := laid(t, 40, 0, framed("a"), "")
	j, _ := opened(t, d)
	d.Fail()
	good(t, j.Commit(), j.Add([]byte("b")))
	if why := j.Commit(); why != api.ErrDown || j.Group() != 9 || j.Left() != 31 {
		t.Error(why, j.Group(), j.Left())
	}
	if why := j.Add(make([]byte, 15)); why != api.ErrFull {
		t.Error(why)
	}
	if why := j.Snapshot(); why != api.ErrState {
		t.Error(why)
	}
	if j.Drop() != 1 || j.Snapshot(nil) != api.ErrArg || j.Snapshot(make([]byte, 24)) != api.ErrFull || j.Snapshot([]byte("s")) != api.ErrDown {
		t.Error("off")
	}
	good(t, d.Start(disk.Loss{}))
	has(t, d, 0, framed("a"), "")
}

// P10.3
func TestDrop(t *testing.T) {
	d := made(t, 100)
	j, _ := opened(t, d)
	if n := j.Drop(); n != 0 {
		t.Error(n)
	}
	good(t, j.Add([]byte("a"), []byte("b")), j.Add([]byte("c")))
	if n := j.Drop(); n != 3 || j.Group() != 0 || j.Drop() != 0 {
		t.Error(n, j.Group())
	}
	good(t, j.Commit())
	has(t, d, 0, "", "")
	commit(t, j, "d")
	has(t, d, 0, framed("d"), "")
	good(t, j.Snapshot())
}

// P10.4
func TestSnapshot(t *testing.T) {
	for root := range 2 {
		for _, recs := range [][]string{nil, {"x"}, {"x", "yy", "x"}, {framed("a")}} {
			d := laid(t, 100, root, framed("a")+framed("b"), "")
			j, _ := opened(t, d)
			good(t, j.Snapshot(lists(recs)...))
			has(t, d, 1-root, framedAll(recs), "")
			if j.Size() != len(framedAll(recs)) || j.Left() != 100-j.Size() || j.Group() != 0 {
				t.Error(j.Size(), j.Left(), j.Group())
			}
			commit(t, j, "z")
			has(t, d, 1-root, framedAll(recs)+framed("z"), "")
			good(t, j.Snapshot([]byte("w")))
			has(t, d, root, framed("w"), "")
			d.Fail()
			good(t, d.Start(disk.Loss{}))
			has(t, d, root, framed("w"), "") // it was synced, both files were
			if _, recs := opened(t, d); !slices.Equal(recs, []string{"w"}) {
				t.Error(recs)
			}
		}
	}
}

// P10.4: the errors, the one that is named first ahead of the others.
func TestSnapshotErrors(t *testing.T) {
	d := laid(t, 40, 1, framed("a"), "")
	j, _ := opened(t, d)
	long, wide := make([]byte, api.MaxRecord+1), make([]byte, 24)
	good(t, j.Add([]byte("b")))
	for _, recs := range [][][]byte{nil, {[]byte("x")}, {nil}, {wide}, {wide, long}} {
		if why := j.Snapshot(recs...); why != api.ErrState || j.Group() != 9 {
			t.Error(len(recs), why, j.Group())
		}
	}
	j.Drop()
	for _, recs := range [][][]byte{{nil}, {{}}, {long}, {[]byte("x"), nil}, {wide, nil}, {nil, wide}, {wide, long}} {
		if why := j.Snapshot(recs...); why != api.ErrArg {
			t.Error(len(recs), why)
		}
	}
	for _, recs := range [][][]byte{{wide}, {make([]byte, 8), make([]byte, 8)}, slices.Repeat([][]byte{[]byte("x")}, 4)} {
		if why := j.Snapshot(recs...); why != api.ErrFull {
			t.Error(len(recs), why)
		}
	}
	has(t, d, 1, framed("a"), "")
	good(t, j.Snapshot(wide[:23]))
	has(t, d, 0, framed(string(wide[:23])), "")
}

// P10.4: the acts one by one, told by a fuse at each, ahead of it and behind it. All that is left of what was not synced is kept.
func TestSnapshotActs(t *testing.T) {
	old, anew := framed("a"), framed("x")+framed("y")
	for root := range 2 {
		behind := []struct {
			root        int
			live, other string
		}{{root, old, anew}, {root, old, anew}, {1 - root, anew, old}, {1 - root, anew, ""}, {1 - root, anew, ""}}
		for fuse := range 5 {
			for _, isBehind := range []bool{false, true} {
				want := behind[fuse]
				if !isBehind && fuse > 0 {
					want = behind[fuse-1]
				} else if !isBehind {
					want.root, want.live, want.other = root, old, ""
				}
				d := laid(t, 100, root, old, "")
				j, _ := opened(t, d)
				d.Arm(fuse, isBehind)
				if why := j.Snapshot([]byte("x"), []byte("y")); why != api.ErrDown || j.Group() != 0 {
					t.Fatal(fuse, isBehind, why)
				}
				good(t, d.Start(disk.Loss{Keep: [2]int{99, 99}, Cut: [2]bool{true, true}}))
				has(t, d, want.root, want.live, want.other)
			}
		}
	}
	for _, recs := range [][][]byte{nil, {[]byte("x")}, {[]byte("x"), []byte("y")}} {
		for _, live := range []string{"", old} {
			got := acts(t, func(fuse int) *disk.Disk {
				d := laid(t, 100, 0, live, "")
				j, _ := opened(t, d)
				d.Arm(fuse, false)
				if why := j.Snapshot(recs...); d.On() != (why == api.OK) {
					t.Error(fuse, why)
				}
				return d
			})
			if got != 5 {
				t.Error(len(recs), live, got)
			}
		}
	}
}

// P10.4: nothing that was not synced when the root is switched may be lost then.
func TestSnapshotIsSure(t *testing.T) {
	for fuse := 2; fuse < 5; fuse++ {
		for _, l := range losses() {
			d := laid(t, 100, 0, framed("a"), "")
			j, _ := opened(t, d)
			d.Arm(fuse, true)
			j.Snapshot([]byte("x"), []byte("y"))
			good(t, d.Start(l))
			if root, live, _ := files(t, d); root != 1 || live != framed("x")+framed("y") {
				t.Errorf("%d %v: %d %q", fuse, l, root, live)
			}
		}
	}
}

// P10.4, R4
func TestSnapshotIsNew(t *testing.T) {
	d := made(t, 100)
	j, _ := opened(t, d)
	rec := []byte("abcd")
	good(t, j.Snapshot(rec[:2], rec[2:]))
	if string(rec) != "abcd" {
		t.Error(string(rec))
	}
	clear(rec)
	has(t, d, 1, framed("ab")+framed("cd"), "")
}

// P10.5: what a journal tells is the disk's, whoever turned that; while the power is off the disk tells no file's bytes.
func TestTells(t *testing.T) {
	d := made(t, 100)
	j, _ := opened(t, d)
	k, _ := opened(t, d)
	if j.Size() != 0 || j.Left() != 100 || j.Group() != 0 {
		t.Error(j.Size(), j.Left(), j.Group())
	}
	good(t, j.Add([]byte("abc")))
	if j.Group() != 11 || k.Group() != 0 || k.Size() != 0 || j.Left() != 100 {
		t.Error(j.Group(), k.Group(), k.Size(), j.Left())
	}
	good(t, j.Commit())
	if j.Size() != 11 || k.Size() != 11 || j.Left() != 89 || k.Left() != 89 {
		t.Error(j.Size(), k.Size(), j.Left(), k.Left())
	}
	good(t, k.Snapshot([]byte("x")))
	commit(t, j, "y")
	has(t, d, 1, framed("x")+framed("y"), "")
	good(t, d.Append(0, []byte("....")))
	if j.Size() != 18 || k.Size() != 18 || j.Left() != 78 || k.Left() != 78 {
		t.Error(j.Size(), k.Size(), j.Left(), k.Left())
	}
	d.Fail()
	if j.Size() != 0 || j.Left() != 78 {
		t.Error(j.Size(), j.Left())
	}
}

// P10.5
func TestNil(t *testing.T) {
	for _, j := range []*journal.Journal{nil, {}} {
		for range 2 {
			for _, why := range []api.Errno{
				j.Add(), j.Add([]byte("a")), j.Add(nil), j.Add(make([]byte, api.MaxRecord+1)), j.Commit(),
				j.Snapshot(), j.Snapshot([]byte("a")), j.Snapshot(nil),
			} {
				if why != api.ErrNil {
					t.Error(j, why)
				}
			}
			if j.Drop() != 0 || j.Size() != 0 || j.Left() != 0 || j.Group() != 0 {
				t.Error(j.Drop(), j.Size(), j.Left(), j.Group())
			}
		}
	}
}

// P10.6: at whatever byte the loss cuts a group, its records from the first one on are there, each whole.
func TestLossWithinCommit(t *testing.T) {
	was, group := []string{"a", "bc"}, []string{"d", "efgh", framed("i"), "j"}
	for root := range 2 {
		for keep := range len(framedAll(group)) + 2 {
			for _, fuse := range []int{0, 1} {
				d := laid(t, 200, root, framedAll(was), "")
				j, _ := opened(t, d)
				good(t, j.Add(lists(group)...))
				d.Arm(fuse, fuse == 0)
				if why := j.Commit(); why != api.ErrDown {
					t.Fatal(why)
				}
				good(t, d.Start(disk.Loss{Keep: [2]int{keep, keep}}))
				whole, _ := records(framedAll(group)[:min(keep, len(framedAll(group)))])
				want := append(slices.Clone(was), whole...)
				_, recs := opened(t, d)
				if !slices.Equal(recs, want) {
					t.Errorf("%d: %q, want %q", keep, recs, want)
				}
				has(t, d, root, framedAll(want), "")
			}
		}
	}
}

// P10.7
func TestLossWithinSnapshot(t *testing.T) {
	was, anew := []string{"a", "bc"}, []string{"x", "bc", "yyy"}
	for root := range 2 {
		for fuse := range 6 {
			for _, behind := range []bool{false, true} {
				for _, l := range losses() {
					d := laid(t, 200, root, framedAll(was), "")
					j, _ := opened(t, d)
					d.Arm(fuse, behind)
					why := j.Snapshot(lists(anew)...)
					d.Fail()
					good(t, d.Start(l))
					want := was
					if fuse > 2 || fuse == 2 && behind {
						want = anew
					}
					if _, recs := opened(t, d); !slices.Equal(recs, want) || (why == api.OK) != (fuse == 5) {
						t.Errorf("%d %v %v: %q, want %q, %d", fuse, behind, l, recs, want, why)
					}
				}
			}
		}
	}
}

// P10.8: also if the first one was cut off by a loss, and nothing of either file is another one.
func TestOpenedTwice(t *testing.T) {
	for _, tail := range []string{"", "x", framed("zzz")[:10], string(make([]byte, 20))} {
		for _, other := range []string{"", framed("o"), "y"} {
			for fuse := range 5 {
				for _, l := range losses() {
					d := laid(t, 200, 1, framed("a")+framed("b")+tail, other)
					d.Arm(fuse, fuse%2 == 1)
					journal.Open(d)
					d.Fail()
					good(t, d.Start(l))
					for range 2 {
						j, recs := opened(t, d)
						if !slices.Equal(recs, []string{"a", "b"}) || j.Size() != 18 || j.Left() != 182 || j.Group() != 0 {
							t.Fatalf("%q %d %v: %q", tail, fuse, l, recs)
						}
						has(t, d, 1, framed("a")+framed("b"), "")
					}
				}
			}
		}
	}
}

// P10.9
func TestRefused(t *testing.T) {
	d := laid(t, 40, 1, framed("a"), "")
	j, _ := opened(t, d)
	good(t, j.Add([]byte("b")))
	d.Arm(1, false)
	long := make([]byte, api.MaxRecord+1)
	for _, why := range []api.Errno{
		j.Add(nil), j.Add([]byte("c"), nil), j.Add(long), j.Add([]byte("c"), make([]byte, 6)), j.Add(make([]byte, 15)),
		j.Snapshot(), j.Snapshot([]byte("c")), j.Snapshot(long), j.Snapshot(make([]byte, 100)),
	} {
		if why == api.OK || why == api.ErrDown {
			t.Error(why)
		}
		if j.Group() != 9 || j.Size() != 9 || j.Left() != 31 || !d.On() {
			t.Fatal(why, j.Group(), j.Size(), j.Left())
		}
		has(t, d, 1, framed("a"), "")
	}
	if n := j.Drop(); n != 1 {
		t.Error(n)
	}
	for _, why := range []api.Errno{j.Snapshot(nil), j.Snapshot(long), j.Snapshot([]byte("c"), nil), j.Snapshot(make([]byte, 24))} {
		if why == api.OK || why == api.ErrDown {
			t.Error(why)
		}
		has(t, d, 1, framed("a"), "")
	}
	good(t, d.Sync(0)) // what was refused did not burn the fuse
	if why := d.Sync(0); why != api.ErrDown {
		t.Error(why)
	}
}

// words is a journal as the chapter words it, and what was under way as the power went off.
type words struct {
	room  int
	recs  []string
	group []string
	way   []string // of a Commit
	anew  []string // of a Snapshot, if isNew
	isNew bool
}

func (w *words) fits(recs []string) api.Errno {
	for _, rec := range recs {
		if len(rec) < 1 || len(rec) > api.MaxRecord {
			return api.ErrArg
		}
	}
	if len(framedAll(w.group))+len(framedAll(recs)) > w.room-len(framedAll(w.recs)) {
		return api.ErrFull
	}
	return api.OK
}

// add, commit and snapshot are the calls of a journal whose disk has power all the while.
func (w *words) add(recs []string) api.Errno {
	why := w.fits(recs)
	if why == api.OK {
		w.group = append(slices.Clone(w.group), recs...)
	}
	return why
}

func (w *words) commit() api.Errno {
	w.recs, w.group = append(slices.Clone(w.recs), w.group...), nil
	return api.OK
}

func (w *words) snapshot(recs []string) api.Errno {
	if len(w.group) > 0 {
		return api.ErrState
	}
	why := w.fits(recs)
	if why == api.OK {
		w.recs = recs
	}
	return why
}

// someRecords are a few taken by chance, of which some may be none.
func someRecords(chance *rand.Rand) []string {
	recs := make([]string, chance.Intn(4))
	for i := range recs {
		size := 1 + chance.Intn(12)
		if chance.Intn(30) == 0 {
			size = []int{0, api.MaxRecord, api.MaxRecord + 1}[chance.Intn(3)]
		}
		recs[i] = string(pick(chance, size))
	}
	return recs
}

// P10.3, P10.4, P10.5, P10.6, P10.7, P10.8, P10.9: long runs of calls and losses, against the chapter's words.
func TestLong(t *testing.T) {
	chance := rand.New(rand.NewSource(106))
	for range 150 {
		room := 1 + chance.Intn(300)
		d := made(t, room)
		j, _ := opened(t, d)
		w := &words{room: room}
		for range 150 {
			if chance.Intn(6) == 0 {
				d.Arm(chance.Intn(8), chance.Intn(2) == 0)
			}
			turn(t, chance, d, j, w)
			if chance.Intn(20) == 0 {
				d.Fail()
			}
			if !d.On() {
				j = reopened(t, chance, d, w)
			}
			tellsAs(t, d, j, w)
		}
	}
}

// turn does one call, and the same on the words; what a loss cut off is under way.
func turn(t *testing.T, chance *rand.Rand, d *disk.Disk, j *journal.Journal, w *words) {
	t.Helper()
	was, recs := *w, someRecords(chance)
	var got, want api.Errno
	switch chance.Intn(8) {
	case 0, 1, 2:
		got, want = j.Add(lists(recs)...), w.add(recs)
	case 3, 4, 5:
		got, want = j.Commit(), w.commit()
		was.way = was.group
	case 6:
		got, want = j.Snapshot(lists(recs)...), w.snapshot(recs)
		was.anew, was.isNew = recs, true
	case 7:
		if n := j.Drop(); n != len(w.group) {
			t.Fatal(n, len(w.group))
		}
		w.group = nil
	}
	if !d.On() {
		if got != api.ErrDown || want != api.OK {
			t.Fatal("off", got, want)
		}
		*w = was
		return
	}
	if got != want {
		t.Fatal(got, want)
	}
}

// reopened is the journal behind a loss: the words take what it has, if that may be.
func reopened(t *testing.T, chance *rand.Rand, d *disk.Disk, w *words) *journal.Journal {
	t.Helper()
	good(t, d.Start(disk.Loss{
		Keep: [2]int{chance.Intn(80) - 1, chance.Intn(80) - 1},
		Cut:  [2]bool{chance.Intn(2) == 0, chance.Intn(2) == 0},
	}))
	j, recs := opened(t, d)
	may := w.isNew && slices.Equal(recs, w.anew)
	for count := range len(w.way) + 1 {
		may = may || slices.Equal(recs, append(slices.Clone(w.recs), w.way[:count]...))
	}
	if !may {
		t.Fatalf("%q of %q and %q or %q", recs, w.recs, w.way, w.anew)
	}
	*w = words{room: w.room, recs: recs}
	return j
}

// tellsAs holds all that a journal tells against the words.
func tellsAs(t *testing.T, d *disk.Disk, j *journal.Journal, w *words) {
	t.Helper()
	root, live, other := files(t, d)
	if live != framedAll(w.recs) || other != "" {
		t.Fatalf("root %d: %q %q, want %q", root, live, other, w.recs)
	}
	tells := fmt.Sprint(j.Size(), j.Left(), j.Group())
	if want := fmt.Sprint(len(live), w.room-len(live), len(framedAll(w.group))); tells != want {
		t.Fatal(tells, want)
	}
}

// Bound: numbers at their ends are no frames' sizes.
func TestScanEnds(t *testing.T) {
	for _, size := range []uint32{0, api.MaxRecord + 1, math.MaxInt32, math.MaxInt32 + 1, math.MaxUint32 - 7, math.MaxUint32 - 8, math.MaxUint32} {
		for _, behind := range []int{0, 1, 8, 100} {
			head := binary.BigEndian.AppendUint32(nil, size)
			head = binary.BigEndian.AppendUint32(head, crc32.ChecksumIEEE(head))
			scans(t, string(head)+string(make([]byte, behind)), nil, 0)
		}
	}
}
