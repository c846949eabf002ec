package maps

import (
	"testing"

	"reef/api"
)

// P13.1, of First

func wantFirst(t *testing.T, hosts []int, want api.Map) {
	t.Helper()
	in := spare(hosts, 5)
	got := First(in)
	if !alike(got, want) {
		t.Fatalf("First(%v): %+v; want %+v", hosts, got, want)
	}
	spoil(got)
	if !alike(api.Map{Hosts: in[:len(in)+3]}, api.Map{Hosts: append(own(api.Map{Hosts: hosts}).Hosts, 5, 5, 5)}) {
		t.Fatalf("First(%v): what went in is %v", hosts, in)
	}
}

func TestFirst(t *testing.T) {
	wantFirst(t, []int{0, 0, 1}, plain())
	for _, hosts := range someHosts() {
		want := api.Map{Hosts: hosts}
		for range hosts {
			want.Osds = append(want.Osds, api.Osd{Boot: 0, Up: false, Weight: 65536, UpThru: 0})
		}
		wantFirst(t, hosts, want)
		if !Fit(want) {
			t.Errorf("%v: not fit", hosts)
		}
	}
}

func TestFirstOfHostsThatAreNone(t *testing.T) {
	for _, hosts := range noHosts() {
		wantFirst(t, hosts, api.Map{})
	}
}

func TestFirstIsNotKept(t *testing.T) {
	hosts := []int{1, 2}
	m := First(hosts)
	hosts[0] = 5
	if !alike(m, First([]int{1, 2})) {
		t.Errorf("%+v", m)
	}
}
