/- Contracts of package wire: bytes.Clone, Take, Read. -/
import Derived.Test.YtojeonepplfhlaaWireA
import Derived.Test.YtojeonepplfhlaaNum
namespace Go.Proofs.Ytojeonepplfhlaa
open Go.RowKit

set_option maxRecDepth 100000 in
theorem infoByte : (Try.prog.info? 5).map (fun i => (i.zero, i.size, i.bytes)) = some (some (.int .u8 0), 1, 1) := by kernel_rfl

def NewBytes (l : List Int) (w : World) (e : Ending) (w' : World) : Prop := ∃ v, e = .returned v ∧ Own w' w.heap.size 5 v l ∧ Below w.heap.size w w'

theorem own_empty (w : World) (e : Nat) : Own (w.alloc (.cells #[] e)) w.heap.size e (.slice (some ⟨w.heap.size, 0, none⟩) 0 0) [] :=
  World.ownsRow_made w #[] 0 (Nat.le_refl _) (Nat.zero_le _) rfl
theorem own_nil (w : World) (b e : Nat) : Own w b e (.slice none 0 0) [] := World.ownsRow_nil w b e 1

set_option maxRecDepth 100000 in
set_option maxHeartbeats 400000 in
theorem clone_any (w : World) (g : Nat) (v : Value) (l : List Int) (h : Sl w g v l) (h47 : l.length ≤ 140737488355328) :
    Calls Try.prog 40 #[v] w (NewBytes l w) := by
  obtain ⟨i0, hi, hz0, hz1, hz2⟩ := info_parts infoByte
  have Hs := Lib.hid (h.free w.heap.size (Nat.le_refl _))
  obtain ⟨A, c, rfl, hc, hn, hr⟩ := h
  cases A with
  | none =>
    have hl : l = [] := by
      by_cases h0 : l = []
      · exact h0
      · obtain ⟨_, _, he, _⟩ := hr h0
        cases he
    subst hl
    have hc0 := hn rfl
    subst hc0
    clear hn hr hc h47
    have hq := fun W : World => Lib.run_eql_slice_nil (P := Try.prog) W 27 5 none 0 0 0 0 Try.underlying27
    have H : NewBytes [] w (.returned (.slice none 0 0)) w := ⟨_, rfl, own_nil w _ _, Below.refl _ _⟩
    have HH := Lib.hid H
    clear H
    go_enter Try.func40, Try.ntmps40
    go_wp2
    go_ret
    exact HH.out
  | some ad =>
    clear hn hr
    have hq := fun W : World => Lib.run_eql_slice_nil (P := Try.prog) W 27 5 (some ad) l.length c 0 0 Try.underlying27
    go_enter Try.func40, Try.ntmps40
    go_wp2_with (at_builtin; refine wpList_append_bytes rfl _ _ 27 rfl w.heap.size 5 i0 Try.underlying27 hi hz0 hz1 hz2 _ [] rfl (own_empty w _) w.heap.size _ l rfl ?c1 ?c2 ?c3 ?_)
    case c1 => exact Hs.out.below ((Below.refl _ _).alloc (Nat.le_refl _) _)
    case c2 => simpa using h47
    case c3 => simp
    intro v' w' ho hg
    have Ho := Lib.hid ho
    have Hg := Lib.hid hg
    clear ho hg
    go_wp2
    go_ret
    refine ⟨_, rfl, by simpa using Ho.out, ?_⟩
    exact ((Below.refl _ _).alloc (Nat.le_refl _) _).grown Hg.out (by simp) (by simp [Value.ownBlock])

theorem Rd.below {w w' : World} {g : Nat} {l : List Int} {bad : Bool} (h : Rd w g l bad) (hb : Below w.heap.size w w') : Rd w' g l bad := by
  obtain ⟨sv, hx, hs, hy, hm⟩ := h
  exact ⟨sv, hx.below hb, hs.below hb, hy, hm⟩

/-- What Take leaves, by the world in between: there the Reader is moved on, and nothing is new yet. -/
def TakePost (g : Nat) (l : List Int) (bad : Bool) (n : Int) (w : World) (e : Ending) (w' : World) : Prop :=
  ∃ v w1, e = .returned v ∧ Only g w w1 ∧ Below w1.heap.size w1 w' ∧
    ((0 ≤ n ∧ n ≤ l.length ∧ Own w' w1.heap.size 5 v (l.take n.toNat) ∧ Rd w1 g (l.drop n.toNat) bad) ∨ ((n < 0 ∨ l.length < n) ∧ Own w' w1.heap.size 5 v [] ∧ Rd w1 g [] true))
set_option maxRecDepth 100000 in
set_option maxHeartbeats 400000 in
theorem take_yes (g : Nat) (w : World) (l : List Int) (bad : Bool) (n : Nat) (h : Rd w g l bad) (hn : n ≤ l.length) (h47 : l.length ≤ 140737488355328) :
    Calls Try.prog 42 #[.pointer (some ⟨g, 0, none⟩), .int .i64 (n : Int)] w (TakePost g l bad n w) := by
  have H := Lib.hid h
  clear h
  go_enter Try.func42, Try.ntmps42
  go_wp2_with (go_at_call 65; refine (next_yes g w l bad n H.out hn).mono ?_; rintro e w1 ⟨pv, rfl, ho, hor⟩)
  rcases hor with ⟨_, _, hs, hr⟩ | ⟨hbad, _, _⟩
  · have Ho := Lib.hid ho
    have Hs := Lib.hid hs
    have Hr := Lib.hid hr
    clear ho hs hr
    go_wp2_with (go_at_call 40; refine (clone_any w1 g pv _ Hs.out (by rw [List.length_take]; omega)).mono ?_; rintro e w2 ⟨v, rfl, hw, hb⟩)
    go_ret
    exact ⟨_, w1, rfl, Ho.out, hb, .inl ⟨by omega, by omega, hw, Hr.out⟩⟩
  · omega
set_option maxRecDepth 100000 in
set_option maxHeartbeats 400000 in
theorem take_no (g : Nat) (w : World) (l : List Int) (bad : Bool) (n : Int) (h : Rd w g l bad) (hn : n < 0 ∨ l.length < n) :
    Calls Try.prog 42 #[.pointer (some ⟨g, 0, none⟩), .int .i64 n] w (TakePost g l bad n w) := by
  have H := Lib.hid h
  have HN := Lib.hid hn
  clear h hn
  go_enter Try.func42, Try.ntmps42
  go_wp2_with (go_at_call 65; refine (next_no g w l bad n H.out HN.out).mono ?_; rintro e w1 ⟨pv, rfl, ho, hor⟩)
  rcases hor with ⟨h0, h1, _, _⟩ | ⟨_, hpv, hr⟩
  · have := HN.out
    omega
  · subst hpv
    have Ho := Lib.hid ho
    have Hr := Lib.hid hr
    clear ho hr
    go_wp2_with (go_at_call 40; refine (clone_any w1 g (.slice none 0 0) [] (Sl.nil _ _) (by simp)).mono ?_; rintro e w2 ⟨v, rfl, hw, hb⟩)
    go_ret
    exact ⟨_, w1, rfl, Ho.out, hb, .inr ⟨HN.out, hw, Hr.out⟩⟩

def ReadPost (l : List Int) (w : World) (e : Ending) (w' : World) : Prop :=
  ∃ g, e = .returned (.pointer (some ⟨g, 0, none⟩)) ∧ w.heap.size ≤ g ∧ Rd w' g l false ∧ Below w.heap.size w w'
set_option maxRecDepth 100000 in
set_option maxHeartbeats 400000 in
theorem read_any (w : World) (g : Nat) (v : Value) (l : List Int) (h : Sl w g v l) (hy : Bys l) (h47 : l.length ≤ 140737488355328) :
    Calls Try.prog 16 #[v] w (ReadPost l w) := by
  have H := Lib.hid h
  have HY := Lib.hid hy
  clear h hy
  go_enter Try.func16, Try.ntmps16
  go_wp2_with (go_at_call 40; refine (clone_any w g v l H.out h47).mono ?_; rintro e w1 ⟨v, rfl, hw, hb⟩; obtain ⟨A, c, rfl⟩ := hw.slice)
  have HW := Lib.hid hw
  have HB := Lib.hid hb
  clear hw hb
  go_ret
  have hx := Box.fresh w1 69 #[.slice A l.length c, .bool false]
  have hbb : Below w1.heap.size w1 (w1.alloc (.cells #[.slice A l.length c, .bool false] 69)) := (Below.refl _ _).alloc (Nat.le_refl _) _
  exact ⟨_, rfl, HB.out.size, ⟨_, hx, (SlT.of_own HW.out (Nat.le_refl _)).below hbb, HY.out, by unfold maxLen; omega⟩, HB.out.trans (hbb.mono HB.out.size)⟩

def NumPost (g : Nat) (l : List Int) (bad : Bool) (n : Nat) (w : World) (e : Ending) (w' : World) : Prop :=
  Only g w w' ∧ ((n ≤ l.length ∧ e = .returned (.int .u64 (le (l.take n))) ∧ Rd w' g (l.drop n) bad) ∨ (l.length < n ∧ e = .returned (.int .u64 0) ∧ Rd w' g [] true))
set_option maxRecDepth 100000 in
set_option maxHeartbeats 400000 in
theorem number_yes (g : Nat) (w : World) (l : List Int) (bad : Bool) (n : Nat) (h : Rd w g l bad) (hn : n ≤ l.length) (h8 : n ≤ 8) (hn0 : 0 < n) :
    Calls Try.prog 72 #[.pointer (some ⟨g, 0, none⟩), .int .i64 (n : Int)] w (NumPost g l bad n w) := by
  have H := Lib.hid h
  clear h
  go_enter Try.func72, Try.ntmps72
  go_wp2_with fail
  refine (next_yes g w l bad n H.out hn).mono ?_
  rintro e w1 ⟨pv, rfl, ho, hor⟩
  rcases hor with ⟨_, _, hs, hr⟩ | ⟨hbad, _, _⟩
  · have Ho := Lib.hid ho
    have Hr := Lib.hid hr
    clear ho hr
    rw [Int.toNat_natCast] at hs
    obtain ⟨A, c, hpv, hc, _, hrun⟩ := hs
    have hln : (l.take n).length = n := by rw [List.length_take]; omega
    have hne : l.take n ≠ [] := by
      intro h0
      rw [h0] at hln
      simp at hln
      omega
    obtain ⟨b, off, rfl, _, _, hcell⟩ := hrun hne
    rw [hln] at hpv
    subst hpv
    have hy : Bys (l.take n) := by
      obtain ⟨_, _, _, hy, _⟩ := H.out
      exact hy.take n
    have HY := Lib.hid hy
    clear hy
    have hcell' : ∀ i, i < n → w1.cell? ⟨b, off + i, none⟩ = some (.int .u8 ((l.take n).getD i 0)) := fun i hi => hcell i (by omega)
    have HC := Lib.hid hcell'
    clear hcell' hcell hrun hc hne hln
    go_wp2
    go_loop [5, 6, 7, 12] (fun u _ _ i => ∃ k : Nat, k ≤ n ∧ i = .int .i64 k ∧ u = .int .u64 (le ((l.take n).take k) : Int)) (fun _ _ _ i => n - (intOf i).toNat)
    case atStart => exact ⟨0, by omega, rfl, rfl⟩
    case round =>
      obtain ⟨k, hk, rfl, rfl⟩ := hrel
      by_cases hlt : k < n
      · have hc1 := HC.out k hlt
        go_wp2
        refine ⟨⟨k + 1, by omega, by go_num, ?_⟩, by simp [intOf]; omega⟩
        congr 1
        exact le_or (l.take n) HY.out k (by rw [List.length_take]; omega) (by omega) _ (by simp [List.getD_eq_getElem?_getD, hlt, List.getElem?_eq_getElem (show k < l.length by omega)])
      · obtain rfl : k = n := by omega
        go_wp2
        go_ret
        have hr := Hr.out
        rw [Int.toNat_natCast] at hr
        exact ⟨Ho.out, .inl ⟨hn, congrArg (fun z : Nat => Ending.returned (.int .u64 (z : Int))) (by rw [List.take_take, Nat.min_self]), hr⟩⟩
  · omega

set_option maxRecDepth 100000 in
set_option maxHeartbeats 400000 in
theorem number_no (g : Nat) (w : World) (l : List Int) (bad : Bool) (n : Nat) (h : Rd w g l bad) (hn : l.length < n) :
    Calls Try.prog 72 #[.pointer (some ⟨g, 0, none⟩), .int .i64 (n : Int)] w (NumPost g l bad n w) := by
  have H := Lib.hid h
  clear h
  go_enter Try.func72, Try.ntmps72
  go_wp2_with fail
  refine (next_no g w l bad n H.out (by omega)).mono ?_
  rintro e w1 ⟨pv, rfl, ho, hor⟩
  rcases hor with ⟨_, _, _, _⟩ | ⟨_, hpv, hr⟩
  · omega
  · subst hpv
    have Ho := Lib.hid ho
    have Hr := Lib.hid hr
    clear ho hr
    go_wp2
    go_loop [5, 12] (fun u i => u = .int .u64 0 ∧ i = .int .i64 0) (fun _ _ => 0)
    case atStart => exact ⟨rfl, rfl⟩
    case round =>
      obtain ⟨rfl, rfl⟩ := hrel
      go_wp2
      go_ret
      exact ⟨Ho.out, .inr ⟨hn, rfl, Hr.out⟩⟩
end Go.Proofs.Ytojeonepplfhlaa
