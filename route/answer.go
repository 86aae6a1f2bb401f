package route

import (
	"strings"

	"stowage/api"
	"stowage/percent"
)

// Status is the number by which an answer tells an error.
func Status(e api.Errno) int {
	switch e {
	case api.OK:
		return 200
	case api.ErrNone, api.ErrKey, api.ErrMark, api.ErrVersion, api.ErrUpload:
		return 404
	case api.ErrWay:
		return 405
	case api.ErrThere, api.ErrFilled, api.ErrClash:
		return 409
	case api.ErrLong, api.ErrBody:
		return 413
	case api.ErrHead:
		return 431
	case api.ErrMethod:
		return 501
	case api.ErrMany, api.ErrFull:
		return 507
	case api.ErrLeader:
		return 307
	case api.ErrBusy, api.ErrDown:
		return 503
	}
	return 400
}

// Items writes a listing.
func Items(l []api.Item, more bool) string {
	var told strings.Builder
	for _, item := range l {
		kind := "k"
		if item.Folder {
			kind = "f"
		}
		told.WriteString(kind + " " + percent.Name(item.Name) + "\n")
	}
	if more {
		told.WriteString("more\n")
	}
	return told.String()
}

// Lines writes texts.
func Lines(l []string) string {
	var told strings.Builder
	for _, s := range l {
		told.WriteString(percent.Name(s) + "\n")
	}
	return told.String()
}

// Unlines reads texts.
func Unlines(s string) ([]string, api.Errno) {
	var l []string
	for line := range strings.Lines(s) {
		name, whole := strings.CutSuffix(line, "\n")
		text, e := percent.Unpath(name)
		// A name has one text alone, but a path's text may say it otherwise.
		if !whole || e != api.OK || percent.Name(text) != name {
			return nil, api.ErrForm
		}
		l = append(l, text)
	}
	return l, api.OK
}
