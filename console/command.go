package console

import (
	"slices"

	"spindle/api"
	"spindle/words"
)

// A deed does what a line says, and writes what it has to tell. One that is refused has changed nothing.
type deed func(c *Console, out *words.Page) error

// A command is a word that leads a line. read takes up what stands behind it, and gives what is to be done.
type command struct {
	word  string
	needs bool // a disk
	read  func(*words.Reader) deed
}

// commands are all of them. They are filled by init, since no table of functions stands written out at a package's level.
var commands []command

func init() {
	commands = []command{
		{"export", false, readExport},
		{"forget", false, readForget},
		{"format", false, readFormat},
		{"audit", true, readAudit},
		{"repair", true, readRepair},
		{"rename", true, readRename},
		{"describe", true, readDescribe},
		{"readonly", true, readReadOnly},
		{"read", true, readRead},
		{"write", true, readWrite},
		{"zero", true, readZero},
		{"trim", true, readTrim},
		{"extents", true, readExtents},
		{"clear", true, readClear},
		{"shelve", true, readShelve},
		{"use", false, readUse},
		{"drop", false, readDrop},
		{"shelves", false, readShelves},
		{"differ", true, readDiffer},
		{"backup", true, readBackup},
		{"archives", true, readArchives},
		{"join", true, readJoin},
		{"restore", true, readRestore},
	}
}

// do does a line, and gives what it tells.
func (c *Console) do(line string) (string, error) {
	r := words.Read(line)
	word := r.Bare()
	i := slices.IndexFunc(commands, func(x command) bool { return x.word == word })
	if i < 0 {
		return "", refused(api.ErrCommand)
	}
	do := commands[i].read(r)
	switch {
	case !r.Done():
		return "", refused(api.ErrCommand)
	case commands[i].needs && c.image == nil:
		return "", refused(api.ErrNone)
	}
	var out words.Page
	if err := do(c, &out); err != nil {
		return "", err
	}
	if out.Text() == "" {
		out.Add("ok")
	}
	return out.Text(), nil
}
