/- WALKS OF LAYER 5, FOURTH PART: the reader's steps. -/
import Derived.Test.YtfkhemlaohkhkaaDoorH5c
import Derived.Test.YtfkhemlaohkhkaaDoorM5b
import Derived.Test.YtfkhemlaohkhkaaDoorX3b
namespace Go.Proofs.YtfkhemlaohkhkaaDoor
open Go.RowKit
set_option maxHeartbeats 400000
set_option maxRecDepth 100000
theorem rtext_at (a B c off k : Nat) (A : Option Addr) (O K : Int) (hO : O = off) (hK : K = k) (xs : List Int) (e : Int) (s' : ByteArray) (e' : Int) (hst : Hh.rT xs off k e = (s', e')) (w : World)
    (hb : BX w a 62 #[.slice A 512 c, .int .i64 e]) (ha : RB w B A 512 xs) (hx : Byt xs) (hB : B ≤ a) (hc : 512 ≤ c) (hc2 : c ≤ maxLen) (hk : off + k ≤ 512) (hk0 : 0 < k) :
    Calls Tryd.prog 30 #[.pointer (some ⟨a, 0, none⟩), .int .i64 O, .int .i64 K] w fun r w' => r = .returned (.string s') ∧
      BX w' a 62 #[.slice A 512 c, .int .i64 e'] ∧ Oth a w w' := by
  subst hO
  subst hK
  have c0 : w.cell? ⟨a, 0, none⟩ = some (.slice A 512 c) := hb.cell rfl
  have c1 : w.cell? ⟨a, 1, none⟩ = some (.int .i64 e) := hb.cell rfl
  have hlt := hb.lt
  unfold maxLen at hc2
  by_cases he : e = 0
  · subst he
    obtain ⟨b, o, rfl, hb1, _⟩ := ha.at_ (k := 0) (by omega)
    have hr := ((ha.more (B' := w.heap.size) (by omega)).back (k := off) (by omega)).front (k := k) (by omega)
    have gt := get_any2 (some ⟨b, o + off, none⟩) k (c - off) (Hh.sub xs off k) w hr (Hh.byt_sub hx off k) (by omega) (by unfold maxLen; omega) (by omega)
    have e2 : Hh.rT xs off k 0 = (strOfNums (Sf.getS (Hh.sub xs off k)).1, (Sf.getS (Hh.sub xs off k)).2) := rfl
    rw [e2] at hst
    obtain ⟨q1, q2⟩ := Prod.mk.inj hst
    rw [q1, q2] at gt
    have s1 : IntKind.i64.wrap ((off : Int) + (k : Int)) = (off : Int) + (k : Int) := IntWalk.i64_in _ (by omega)
    have s2 : ((off : Int) + (k : Int)).toNat = off + k := by omega
    have s3 : (0 : Int) ≤ (off : Int) + (k : Int) := by omega
    have s4 : off + k ≤ c := by omega
    have s5 : off ≤ c := by omega
    have s6 : ¬ c = off := by omega
    have s7 : off + k - off = k := by omega
    have GT := Lib.hid gt; have HB := Lib.hid hb
    clear gt hst e2 q1 q2 hr hb hx ha
    go_enter Tryd.func30, Tryd.ntmps30
    go_wp2_with (go_at_call 49; (with_reducible refine GT.out.mono ?_); rintro e w1 ⟨rfl, hb1⟩; have d0 := HB.out.later hb1; have d1 : w1.cell? ⟨a, 1, none⟩ = some (.int .i64 0) := d0.cell rfl; have d2 := d0.free 1; have D0 := Lib.hid d0; clear d0)
    go_ret
    refine ⟨rfl, ?_, (Oth.ofBelow hb1).setCell _ _⟩
    have := D0.out.set 1 (.int .i64 e')
    simpa using this
  · have e1 : (e != 0) = true := by simp [he]
    have e2 : Hh.rT xs off k e = (⟨#[]⟩, e) := by unfold Hh.rT; rw [if_neg he]
    rw [e2] at hst
    cases hst
    have HB := Lib.hid hb
    clear he hb ha hx e2
    go_enter Tryd.func30, Tryd.ntmps30
    go_wp2
    go_ret
    exact ⟨rfl, HB.out, Oth.refl _ _⟩
theorem rnum_at (a B c off k : Nat) (A : Option Addr) (O K : Int) (hO : O = off) (hK : K = k) (xs : List Int) (e : Int) (s' : Int) (e' : Int) (hst : Hh.rN xs off k e = (s', e')) (w : World)
    (hb : BX w a 62 #[.slice A 512 c, .int .i64 e]) (ha : RB w B A 512 xs) (hx : Byt xs) (hB : B ≤ a) (hc : 512 ≤ c) (hc2 : c ≤ maxLen) (hk : off + k ≤ 512) (hk0 : 0 < k) :
    Calls Tryd.prog 31 #[.pointer (some ⟨a, 0, none⟩), .int .i64 O, .int .i64 K] w fun r w' => r = .returned (.int .i64 s') ∧
      BX w' a 62 #[.slice A 512 c, .int .i64 e'] ∧ Oth a w w' := by
  subst hO
  subst hK
  have c0 : w.cell? ⟨a, 0, none⟩ = some (.slice A 512 c) := hb.cell rfl
  have c1 : w.cell? ⟨a, 1, none⟩ = some (.int .i64 e) := hb.cell rfl
  have hlt := hb.lt
  unfold maxLen at hc2
  by_cases he : e = 0
  · subst he
    obtain ⟨b, o, rfl, hb1, _⟩ := ha.at_ (k := 0) (by omega)
    have hr := ((ha.more (B' := w.heap.size) (by omega)).back (k := off) (by omega)).front (k := k) (by omega)
    have gt := get_any (some ⟨b, o + off, none⟩) k (c - off) (Hh.sub xs off k) w hr (Hh.byt_sub hx off k) (by omega) (by unfold maxLen; omega)
    have e2 : Hh.rN xs off k 0 = Nf.getS (Hh.sub xs off k) := rfl
    rw [e2] at hst
    rw [hst] at gt
    simp only at gt
    have s1 : IntKind.i64.wrap ((off : Int) + (k : Int)) = (off : Int) + (k : Int) := IntWalk.i64_in _ (by omega)
    have s2 : ((off : Int) + (k : Int)).toNat = off + k := by omega
    have s3 : (0 : Int) ≤ (off : Int) + (k : Int) := by omega
    have s4 : off + k ≤ c := by omega
    have s5 : off ≤ c := by omega
    have s6 : ¬ c = off := by omega
    have s7 : off + k - off = k := by omega
    have GT := Lib.hid gt; have HB := Lib.hid hb
    clear gt hst e2 hr hb hx ha
    go_enter Tryd.func31, Tryd.ntmps31
    go_wp2_with (go_at_call 50; (with_reducible refine GT.out.mono ?_); rintro e w1 ⟨rfl, rfl⟩; have d2 := HB.out.free 1)
    go_ret
    refine ⟨rfl, ?_, (Oth.refl _ _).setCell _ _⟩
    have := HB.out.set 1 (.int .i64 e')
    simpa using this
  · have e1 : (e != 0) = true := by simp [he]
    have e2 : Hh.rN xs off k e = (0, e) := by unfold Hh.rN; rw [if_neg he]
    rw [e2] at hst
    cases hst
    have HB := Lib.hid hb
    clear he hb ha hx e2
    go_enter Tryd.func31, Tryd.ntmps31
    go_wp2
    go_ret
    exact ⟨rfl, HB.out, Oth.refl _ _⟩
end Go.Proofs.YtfkhemlaohkhkaaDoor
