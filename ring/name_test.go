package ring

import (
	"fmt"
	"slices"
	"strings"
	"testing"

	"granary/api"
)

// P6.8

// allNames are the names of all files that may be.
func allNames() map[string]api.File {
	all := map[string]api.File{}
	for part := range 64 {
		for replica := range 16 {
			for chunk := range 16 {
				all[fmt.Sprintf("%d_%d_%d.index", part, replica, chunk)] = api.File{Part: part, Replica: replica, Chunk: chunk}
				all[fmt.Sprintf("%d_%d_%d.data", part, replica, chunk)] = api.File{Part: part, Replica: replica, Chunk: chunk, Data: true}
			}
		}
	}
	return all
}

func TestEveryFile(t *testing.T) {
	all := allNames()
	is(t, "files", len(all), 64*16*16*2)
	for name, f := range all {
		named(t, f, name, api.OK)
		readsName(t, name, f, api.OK)
	}
}

func TestNoSuchFile(t *testing.T) {
	for _, data := range []bool{false, true} {
		for _, n := range []int{-1, -2, 16, 17, 64, 100, leastInt, mostInt} {
			if n < 0 || n >= 64 {
				named(t, api.File{Part: n, Data: data}, "", api.ErrArg)
				named(t, api.File{Part: n, Replica: 15, Chunk: 15, Data: data}, "", api.ErrArg)
			}
			named(t, api.File{Replica: n, Data: data}, "", api.ErrArg)
			named(t, api.File{Part: 63, Replica: n, Chunk: 15, Data: data}, "", api.ErrArg)
			named(t, api.File{Chunk: n, Data: data}, "", api.ErrArg)
			named(t, api.File{Part: 63, Replica: 15, Chunk: n, Data: data}, "", api.ErrArg)
		}
	}
	named(t, api.File{}, "0_0_0.index", api.OK)
	named(t, api.File{Part: 63, Replica: 15, Chunk: 15, Data: true}, "63_15_15.data", api.OK)
}

func TestNamesThatAreNone(t *testing.T) {
	for _, name := range []string{
		"", "_", "__", ".", "__.", "__.data", "_._", "_.data", ".data", ".index", "data", "index", "manifest", "meta", "0", "0_0", "0_0_0", "0_0_0.",
		"64_0_0.index", "3_16_1.data", "3_0_16.data", "63_15_150.data", "630_15_15.data", "63_150_15.data",
		"03_0_1.data", "3_00_1.data", "3_0_01.data", "00_0_0.index", "3_0_1.dat", "3_0_1.dataa", "3_0_1.Data", "3_0_1.INDEX", "3_0_1.indexx", "3_0_1.ndex",
		"-3_0_1.data", "+3_0_1.data", "3_+0_1.data", "3_-0_1.data", "3_0_+1.data", "3_0_-1.data", "-0_0_0.data", "3_0_1e0.data", "0x3_0_1.data", "3_0_1.0.data",
		" 3_0_1.data", "3_0_1.data ", "3_0_1. data", "3 _0_1.data", "3_0_1 .data", "3_0_1.data\n", "3_0_1.data\x00", "\x003_0_1.data",
		"3_0.data", "3_0_1_1.data", "3__1.data", "_0_1.data", "3_0_.data", "3_0_1_.data", "_3_0_1.data", "3_0__1.data", "3.0_1.data", "3.0.1.data", "3_0.1.data", "3_0_1.data.data", "3_0_1..data", "3_0_1_data", "3_0_1data", "3-0-1.data",
		"3_0_x.data", "x_0_1.data", "3_x_1.data", "3_0_99999999999.data", "3_0_4294967296.data", "3_0_4294967297.data", "18446744073709551619_0_1.data", "3_18446744073709551616_1.data", "9223372036854775807_0_0.index", "-9223372036854775808_0_0.index",
		"٣_0_1.data", strings.Repeat("0", 70000) + "_0_1.data", strings.Repeat("_", 70000), strings.Repeat("9", 70000), "0_0_0." + strings.Repeat("data", 20000),
	} {
		readsName(t, name, api.File{}, api.ErrName)
	}
}

// Every name that differs from one by a byte, or lacks one, or has one more, is a name just where it is another file's.
func TestNamesWithOneByteOfAnother(t *testing.T) {
	all := allNames()
	ask := func(name string) {
		f, there := all[name]
		errno := api.ErrName
		if there {
			errno = api.OK
		}
		readsName(t, name, f, errno)
	}
	for _, name := range []string{"0_0_0.data", "3_0_11.index", "63_15_15.data", "10_1_9.index"} {
		for at := range len(name) + 1 {
			for b := range 256 {
				ask(name[:at] + string([]byte{byte(b)}) + name[at:])
				if at < len(name) {
					ask(name[:at] + string([]byte{byte(b)}) + name[at+1:])
				}
			}
			if at < len(name) {
				ask(name[:at] + name[at+1:])
				ask(name[:at])
				ask(name[at:])
			}
		}
	}
	d := dice(8)
	for range 200000 {
		ask(d.text("001356__9", 5+d.roll(4)) + []string{".data", ".index", "data", ".inde"}[d.roll(4)])
	}
}

// P6.9

func TestFilesByRisingNames(t *testing.T) {
	c := lists(wide(), dealt(11, 1)[0].Parts)
	names, e := Files(c, 0)
	is(t, "Files", e, api.OK)
	is(t, "their names", strings.Join(names, " "), "0_0_0.data 0_0_0.index 10_0_0.data 10_0_0.index 1_0_0.data 1_0_0.index 2_0_0.data 2_0_0.index 3_0_0.data 3_0_0.index 4_0_0.data 4_0_0.index 5_0_0.data 5_0_0.index 6_0_0.data 6_0_0.index 7_0_0.data 7_0_0.index 8_0_0.data 8_0_0.index 9_0_0.data 9_0_0.index")
	has(t, lists(with(wide(), "Chunks", 11), []int{0}), 0, api.OK,
		"0_0_0.data", "0_0_0.index", "0_0_1.data", "0_0_1.index", "0_0_10.data", "0_0_10.index", "0_0_2.data", "0_0_2.index", "0_0_3.data", "0_0_3.index", "0_0_4.data", "0_0_4.index",
		"0_0_5.data", "0_0_5.index", "0_0_6.data", "0_0_6.index", "0_0_7.data", "0_0_7.index", "0_0_8.data", "0_0_8.index", "0_0_9.data", "0_0_9.index")
}

func TestMostFiles(t *testing.T) {
	c := lists(with(wide(), "Chunks", 8), dealt(64, 1)[0].Parts)
	names, e := Files(c, 0)
	is(t, "Files", e, api.OK)
	is(t, "their number", len(names), 1024)
	is(t, "they rise", slices.IsSorted(names) && len(slices.Compact(slices.Clone(names))) == 1024, true)
	for _, name := range names {
		f, e := ReadName(name)
		is(t, "a file of the node", e == api.OK && f.Part < 64 && f.Replica == 0 && f.Chunk < 8, true)
	}
}
