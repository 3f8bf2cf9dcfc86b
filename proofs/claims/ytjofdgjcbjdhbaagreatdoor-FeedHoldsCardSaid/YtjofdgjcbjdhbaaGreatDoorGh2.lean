/- WALKS OF LAYER 5, FOURTH PART: the reader's steps. -/
import Derived.Test.YtjofdgjcbjdhbaaGreatDoorGh1
import Derived.Test.YtjofdgjcbjdhbaaGreatDoorGm5
import Derived.Test.YtjofdgjcbjdhbaaGreatDoorGx3
namespace Go.Proofs.YtjofdgjcbjdhbaaGreatDoor
open Go.RowKit
set_option maxHeartbeats 400000
set_option maxRecDepth 100000
theorem rtext_at (a B c off k : Nat) (A : Option Addr) (O K : Int) (hO : O = off) (hK : K = k) (xs : List Int) (e : Int) (s' : ByteArray) (e' : Int) (hst : Hh.rT xs off k e = (s', e')) (w : World)
    (hb : BX w a 146 #[.slice A 512 c, .int .i64 e]) (ha : RB w B A 512 xs) (hx : Byt xs) (hB : B ≤ a) (hc : 512 ≤ c) (hc2 : c ≤ maxLen) (hk : off + k ≤ 512) (hk0 : 0 < k) :
    Calls Tryz.prog 107 #[.pointer (some ⟨a, 0, none⟩), .int .i64 O, .int .i64 K] w fun r w' => r = .returned (.string s') ∧
      BX w' a 146 #[.slice A 512 c, .int .i64 e'] ∧ Oth a w w' := by
  subst hO
  subst hK
  have c0 : w.cell? ⟨a, 0, none⟩ = some (.slice A 512 c) := hb.cell rfl
  have c1 : w.cell? ⟨a, 1, none⟩ = some (.int .i64 e) := hb.cell rfl
  have hlt := hb.lt
  unfold maxLen at hc2
  by_cases he : e = 0
  · subst he
    obtain ⟨b, o, rfl, hb1, _⟩ := ha.at_ (k := 0) (by omega)
    have hr := ((ha.more (B' := w.heap.size) (by omega)).back (k := off) (by omega)).front (k := k) (by omega)
    have gt := get_any2 (some ⟨b, o + off, none⟩) k (c - off) (Hh.sub xs off k) w hr (Hh.byt_sub hx off k) (by omega) (by unfold maxLen; omega) (by omega)
    have e2 : Hh.rT xs off k 0 = (strOfNums (Sf.getS (Hh.sub xs off k)).1, (Sf.getS (Hh.sub xs off k)).2) := rfl
    rw [e2] at hst
    obtain ⟨q1, q2⟩ := Prod.mk.inj hst
    rw [q1, q2] at gt
    have s1 : IntKind.i64.wrap ((off : Int) + (k : Int)) = (off : Int) + (k : Int) := IntWalk.i64_in _ (by omega)
    have s2 : ((off : Int) + (k : Int)).toNat = off + k := by omega
    have s3 : (0 : Int) ≤ (off : Int) + (k : Int) := by omega
    have s4 : off + k ≤ c := by omega
    have s5 : off ≤ c := by omega
    have s6 : ¬ c = off := by omega
    have s7 : off + k - off = k := by omega
    have GT := Lib.hid gt; have HB := Lib.hid hb
    clear gt hst e2 q1 q2 hr hb hx ha
    go_enter Tryz.func107, Tryz.ntmps107
    go_wp2_with (go_at_call 133; (with_reducible refine GT.out.mono ?_); rintro e w1 ⟨rfl, hb1⟩; have d0 := HB.out.later hb1; have d1 : w1.cell? ⟨a, 1, none⟩ = some (.int .i64 0) := d0.cell rfl; have d2 := d0.free 1; have D0 := Lib.hid d0; clear d0)
    go_ret
    refine ⟨rfl, ?_, (Oth.ofBelow hb1).setCell _ _⟩
    have := D0.out.set 1 (.int .i64 e')
    simpa using this
  · have e1 : (e != 0) = true := by simp [he]
    have e2 : Hh.rT xs off k e = (⟨#[]⟩, e) := by unfold Hh.rT; rw [if_neg he]
    rw [e2] at hst
    cases hst
    have HB := Lib.hid hb
    clear he hb ha hx e2
    go_enter Tryz.func107, Tryz.ntmps107
    go_wp2
    go_ret
    exact ⟨rfl, HB.out, Oth.refl _ _⟩
theorem rnum_at (a B c off k : Nat) (A : Option Addr) (O K : Int) (hO : O = off) (hK : K = k) (xs : List Int) (e : Int) (s' : Int) (e' : Int) (hst : Hh.rN xs off k e = (s', e')) (w : World)
    (hb : BX w a 146 #[.slice A 512 c, .int .i64 e]) (ha : RB w B A 512 xs) (hx : Byt xs) (hB : B ≤ a) (hc : 512 ≤ c) (hc2 : c ≤ maxLen) (hk : off + k ≤ 512) (hk0 : 0 < k) :
    Calls Tryz.prog 108 #[.pointer (some ⟨a, 0, none⟩), .int .i64 O, .int .i64 K] w fun r w' => r = .returned (.int .i64 s') ∧
      BX w' a 146 #[.slice A 512 c, .int .i64 e'] ∧ Oth a w w' := by
  subst hO
  subst hK
  have c0 : w.cell? ⟨a, 0, none⟩ = some (.slice A 512 c) := hb.cell rfl
  have c1 : w.cell? ⟨a, 1, none⟩ = some (.int .i64 e) := hb.cell rfl
  have hlt := hb.lt
  unfold maxLen at hc2
  by_cases he : e = 0
  · subst he
    obtain ⟨b, o, rfl, hb1, _⟩ := ha.at_ (k := 0) (by omega)
    have hr := ((ha.more (B' := w.heap.size) (by omega)).back (k := off) (by omega)).front (k := k) (by omega)
    have gt := get_any (some ⟨b, o + off, none⟩) k (c - off) (Hh.sub xs off k) w hr (Hh.byt_sub hx off k) (by omega) (by unfold maxLen; omega)
    have e2 : Hh.rN xs off k 0 = Nf.getS (Hh.sub xs off k) := rfl
    rw [e2] at hst
    rw [hst] at gt
    simp only at gt
    have s1 : IntKind.i64.wrap ((off : Int) + (k : Int)) = (off : Int) + (k : Int) := IntWalk.i64_in _ (by omega)
    have s2 : ((off : Int) + (k : Int)).toNat = off + k := by omega
    have s3 : (0 : Int) ≤ (off : Int) + (k : Int) := by omega
    have s4 : off + k ≤ c := by omega
    have s5 : off ≤ c := by omega
    have s6 : ¬ c = off := by omega
    have s7 : off + k - off = k := by omega
    have GT := Lib.hid gt; have HB := Lib.hid hb
    clear gt hst e2 hr hb hx ha
    go_enter Tryz.func108, Tryz.ntmps108
    go_wp2_with (go_at_call 134; (with_reducible refine GT.out.mono ?_); rintro e w1 ⟨rfl, rfl⟩; have d2 := HB.out.free 1)
    go_ret
    refine ⟨rfl, ?_, (Oth.refl _ _).setCell _ _⟩
    have := HB.out.set 1 (.int .i64 e')
    simpa using this
  · have e1 : (e != 0) = true := by simp [he]
    have e2 : Hh.rN xs off k e = (0, e) := by unfold Hh.rN; rw [if_neg he]
    rw [e2] at hst
    cases hst
    have HB := Lib.hid hb
    clear he hb ha hx e2
    go_enter Tryz.func108, Tryz.ntmps108
    go_wp2
    go_ret
    exact ⟨rfl, HB.out, Oth.refl _ _⟩
end Go.Proofs.YtjofdgjcbjdhbaaGreatDoor
/- WALKS OF LAYER 5, FIFTH PART: head.Parse. By gen_h5e.py. -/
namespace Go.Proofs.YtjofdgjcbjdhbaaGreatDoor
open Go.RowKit
set_option maxHeartbeats 1600000
set_option maxRecDepth 100000
theorem parE_len (xs : List Int) (h : Hs.checkS xs = 0) : xs.length = 512 := by
  by_cases hl : xs.length = 512
  · exact hl
  · have e : Hs.toldS xs = (0, 1) := by unfold Hs.toldS; rw [if_neg hl]
    unfold Hs.checkS at h
    rw [e, if_pos (by decide)] at h
    simp at h
theorem str_magic (xs : List Int) (hx : Byt xs) (h : ¬ xs = Hh.magic) : ((strOfNums xs).toList == [117, 115, 116, 97, 114, 0, 48, 48]) = false := by
  have e0 : ([117, 115, 116, 97, 114, 0, 48, 48] : List UInt8) = (⟨#[117, 115, 116, 97, 114, 0, 48, 48]⟩ : ByteArray).toList := by decide +kernel
  rw [e0]
  have e : strOfNums Hh.magic = ⟨#[117, 115, 116, 97, 114, 0, 48, 48]⟩ := by decide +kernel
  rw [beq_eq_false_iff_ne, ← e]
  intro h2
  exact h (str_eq hx (Hh.byt_mem' (by decide)) (toList_eq' h2))
/-- The cells of a header in a variable of its own. -/
def CellsAt (W : World) (b : Nat) : Prop := ∃ c0 c1 c2 c3 c4 c5 c6 c7 c8, BX W b 64 #[c0, c1, c2, c3, c4, c5, c6, c7, c8]

theorem hparse_any (A : Option Addr) (n c : Nat) (xs : List Int) (w : World) (ha : RB w w.heap.size A n xs) (hx : Byt xs) (hc : n ≤ c) (hc2 : c ≤ maxLen) :
    Calls Tryz.prog 74 #[.slice A n c] w fun e w' => e = .returned (.tuple #[Hh.parV xs, .int .i64 (Hh.parE xs)]) ∧ Below w.heap.size w w' := by
  have chk := fun W (hW : Below w.heap.size w W) => hcheck_any A n c xs W ((ha.below hW).more hW.size) hx hc hc2
  by_cases hck : Hs.checkS xs = 0
  · have hn := parE_len xs hck
    rw [ha.1] at hn
    subst hn
    rw [hck] at chk
    have CHK := Lib.hid chk; clear chk
    obtain ⟨b, o, rfl, hbl, _⟩ := ha.at_ (k := 0) (by omega)
    have conv := fun W (hW : Below w.heap.size w W) => (((ha.below hW).back (k := 257) (by omega)).front (k := 8) (by omega)).conv (c - 257)
    have f1 : ¬ c = 257 := by omega
    have f2 : 265 ≤ c := by omega
    have f3 : 257 ≤ c := by omega
    by_cases hm : Hh.sub xs 257 8 = Hh.magic
    · rw [show ((xs.drop 257).take 8) = Hh.magic from hm, show strOfNums Hh.magic = ⟨#[117, 115, 116, 97, 114, 0, 48, 48]⟩ from by decide +kernel] at conv
      have conv0 := conv _ ((Below.refl _ w).alloc (Nat.le_refl _) (.cells #[.string ⟨#[]⟩, .string ⟨#[]⟩, .int .i64 0, .int .i64 0, .int .i64 0, .int .i64 0, .int .i64 0, .int .u8 0, .string ⟨#[]⟩] 64))
      clear conv
      obtain ⟨⟨a0, E0⟩, h0⟩ : ∃ P, Hh.rT xs 345 155 0 = P := ⟨_, rfl⟩
      obtain ⟨⟨a1, E1⟩, h1⟩ : ∃ P, Hh.rT xs 0 100 E0 = P := ⟨_, rfl⟩
      obtain ⟨⟨a2, E2⟩, h2⟩ : ∃ P, Hh.rT xs 157 100 E1 = P := ⟨_, rfl⟩
      obtain ⟨⟨a3, E3⟩, h3⟩ : ∃ P, Hh.rN xs 100 8 E2 = P := ⟨_, rfl⟩
      obtain ⟨⟨a4, E4⟩, h4⟩ : ∃ P, Hh.rN xs 108 8 E3 = P := ⟨_, rfl⟩
      obtain ⟨⟨a5, E5⟩, h5⟩ : ∃ P, Hh.rN xs 116 8 E4 = P := ⟨_, rfl⟩
      obtain ⟨⟨a6, E6⟩, h6⟩ : ∃ P, Hh.rN xs 124 12 E5 = P := ⟨_, rfl⟩
      obtain ⟨⟨a7, E7⟩, h7⟩ : ∃ P, Hh.rN xs 136 12 E6 = P := ⟨_, rfl⟩
      obtain ⟨pe, pv⟩ := Hh.par_chain xs hck hm h0 h1 h2 h3 h4 h5 h6 h7
      have kb := hx 156
      have rdt := fun W => hrd_any (xs.getD 156 0) W
      rw [show Hh.rd (xs.getD 156 0) = Hh.kindOf xs from rfl] at rdt
      have hP0 : Hh.parE xs ≠ 0 → Hh.parV xs = .agg #[.string ⟨#[]⟩, .string ⟨#[]⟩, .int .i64 0, .int .i64 0, .int .i64 0, .int .i64 0, .int .i64 0, .int .u8 0, .string ⟨#[]⟩] := fun h => by unfold Hh.parV; rw [if_neg h]; rfl
      generalize Hh.parE xs = PE at *
      generalize hPV : Hh.parV xs = PV at *
      have hPV0 : PE ≠ 0 → PV = .agg #[.string ⟨#[]⟩, .string ⟨#[]⟩, .int .i64 0, .int .i64 0, .int .i64 0, .int .i64 0, .int .i64 0, .int .u8 0, .string ⟨#[]⟩] := fun h => by
        exact hP0 h
      generalize Hh.kindOf xs = K at *
      have ist := fun W => hist_any K W
      have bel := fun W => hbel_any a0 a1 a2 a3 a4 a5 a7 a6 K W
      have atB := fun W (hW : Below w.heap.size w W) => (ha.below hW).at_' (k := 156) (by omega)
      generalize xs.getD 156 0 = y at *
      obtain ⟨s0, s1, s2, s3, s4⟩ : BX (((w.alloc (.cells #[.string ⟨#[]⟩, .string ⟨#[]⟩, .int .i64 0, .int .i64 0, .int .i64 0, .int .i64 0, .int .i64 0, .int .u8 0, .string ⟨#[]⟩] 64)).alloc (.cells #[.slice (some ⟨b, o, none⟩) 512 c, .int .i64 0] 146)).alloc (.cells #[.string ⟨#[]⟩, .string ⟨#[]⟩, .int .i64 0, .int .i64 0, .int .i64 0, .int .i64 0, .int .i64 0, .int .u8 0, .string ⟨#[]⟩] 64)) w.heap.size 64 #[.string ⟨#[]⟩, .string ⟨#[]⟩, .int .i64 0, .int .i64 0, .int .i64 0, .int .i64 0, .int .i64 0, .int .u8 0, .string ⟨#[]⟩] ∧ BX (((w.alloc (.cells #[.string ⟨#[]⟩, .string ⟨#[]⟩, .int .i64 0, .int .i64 0, .int .i64 0, .int .i64 0, .int .i64 0, .int .u8 0, .string ⟨#[]⟩] 64)).alloc (.cells #[.slice (some ⟨b, o, none⟩) 512 c, .int .i64 0] 146)).alloc (.cells #[.string ⟨#[]⟩, .string ⟨#[]⟩, .int .i64 0, .int .i64 0, .int .i64 0, .int .i64 0, .int .i64 0, .int .u8 0, .string ⟨#[]⟩] 64)) (w.heap.size + 1) 146 #[.slice (some ⟨b, o, none⟩) 512 c, .int .i64 0] ∧ BX (((w.alloc (.cells #[.string ⟨#[]⟩, .string ⟨#[]⟩, .int .i64 0, .int .i64 0, .int .i64 0, .int .i64 0, .int .i64 0, .int .u8 0, .string ⟨#[]⟩] 64)).alloc (.cells #[.slice (some ⟨b, o, none⟩) 512 c, .int .i64 0] 146)).alloc (.cells #[.string ⟨#[]⟩, .string ⟨#[]⟩, .int .i64 0, .int .i64 0, .int .i64 0, .int .i64 0, .int .i64 0, .int .u8 0, .string ⟨#[]⟩] 64)) (w.heap.size + 1 + 1) 64 #[.string ⟨#[]⟩, .string ⟨#[]⟩, .int .i64 0, .int .i64 0, .int .i64 0, .int .i64 0, .int .i64 0, .int .u8 0, .string ⟨#[]⟩] ∧ Below w.heap.size w (((w.alloc (.cells #[.string ⟨#[]⟩, .string ⟨#[]⟩, .int .i64 0, .int .i64 0, .int .i64 0, .int .i64 0, .int .i64 0, .int .u8 0, .string ⟨#[]⟩] 64)).alloc (.cells #[.slice (some ⟨b, o, none⟩) 512 c, .int .i64 0] 146)).alloc (.cells #[.string ⟨#[]⟩, .string ⟨#[]⟩, .int .i64 0, .int .i64 0, .int .i64 0, .int .i64 0, .int .i64 0, .int .u8 0, .string ⟨#[]⟩] 64)) ∧ True := by
        refine ⟨((BX.new w _ _).alloc _).alloc _, ?_, ?_, (((Below.refl _ w).alloc (Nat.le_refl _) _).alloc (by simp) _).alloc (by simp; omega) _, trivial⟩
        · have := (BX.new (w.alloc (.cells #[.string ⟨#[]⟩, .string ⟨#[]⟩, .int .i64 0, .int .i64 0, .int .i64 0, .int .i64 0, .int .i64 0, .int .u8 0, .string ⟨#[]⟩] 64)) 146 #[.slice (some ⟨b, o, none⟩) 512 c, .int .i64 0]).alloc (.cells #[.string ⟨#[]⟩, .string ⟨#[]⟩, .int .i64 0, .int .i64 0, .int .i64 0, .int .i64 0, .int .i64 0, .int .u8 0, .string ⟨#[]⟩] 64)
          simpa using this
        · have := BX.new ((w.alloc (.cells #[.string ⟨#[]⟩, .string ⟨#[]⟩, .int .i64 0, .int .i64 0, .int .i64 0, .int .i64 0, .int .i64 0, .int .u8 0, .string ⟨#[]⟩] 64)).alloc (.cells #[.slice (some ⟨b, o, none⟩) 512 c, .int .i64 0] 146)) 64 #[.string ⟨#[]⟩, .string ⟨#[]⟩, .int .i64 0, .int .i64 0, .int .i64 0, .int .i64 0, .int .i64 0, .int .u8 0, .string ⟨#[]⟩]
          simpa using this
      have CONV := Lib.hid conv0; have RDT := Lib.hid rdt; have PEQ := Lib.hid pe; have PVQ := Lib.hid pv; have PV0 := Lib.hid hPV0; have IST := Lib.hid ist; have BEL := Lib.hid bel; have ATB := Lib.hid atB; have HA := Lib.hid ha; have HX := Lib.hid hx
      have X0 := Lib.hid s0; have X1 := Lib.hid s1; have X2 := Lib.hid s2; have X3 := Lib.hid s3
      clear rdt pe pv hPV0 ist bel atB ha hx s0 s1 s2 s3 s4 hck hm hPV hP0 kb
      have H0 := Lib.hid h0; have H1 := Lib.hid h1; have H2 := Lib.hid h2; have H3 := Lib.hid h3; have H4 := Lib.hid h4; have H5 := Lib.hid h5; have H6 := Lib.hid h6; have H7 := Lib.hid h7; clear h0 h1 h2 h3 h4 h5 h6 h7
      by_cases hE : E7 = 0
      · subst hE
        have pe := PEQ.out
        rw [if_pos rfl] at pe
        clear PEQ
        cases hI : Hh.isT K
        · rw [hI, if_neg (by decide)] at pe
          rw [PV0.out (by rw [pe]; decide), pe]
          have ist := IST.out
          rw [hI] at ist
          have IST := Lib.hid ist; clear ist pe PVQ PV0 hI
          go_enter Tryz.func74, Tryz.ntmps74
          go_wp2_with (first
            | (go_at_call 106; (with_reducible refine (CHK.out _ ((Below.refl _ _).alloc (Nat.le_refl _) _)).mono ?_); rintro e w1 ⟨rfl, rfl⟩)
            | (go_at_call 107; (with_reducible refine (rtext_at (w.heap.size + 1) w.heap.size c 345 155 (some ⟨b, o, none⟩) 345 155 rfl rfl xs 0 a0 E0 H0.out _ X1.out (HA.out.below X3.out) HX.out (by omega) hc hc2 (by omega) (by omega)).mono ?_); rintro e v0 ⟨rfl, ka0, ot0⟩
               have kr := (X0.out).oth ot0 (by omega)
               have kh := (X2.out).oth ot0 (by omega)
               have kw : Below w.heap.size w v0 := (X3.out).trans (ot0.below (by omega) (X3.out).size)
               have kc : v0.cell? ⟨w.heap.size + 1 + 1, 0, none⟩ = some (.string ⟨#[]⟩) := kh.cell rfl
               have kf := kh.free 0
               have P0 : Hid (BX (v0.setCell ⟨w.heap.size + 1 + 1, 0, none⟩ (.string a0)) w.heap.size 64 #[.string ⟨#[]⟩, .string ⟨#[]⟩, .int .i64 0, .int .i64 0, .int .i64 0, .int .i64 0, .int .i64 0, .int .u8 0, .string ⟨#[]⟩]) := kr.other (by omega) _
               have Q0 : Hid (BX (v0.setCell ⟨w.heap.size + 1 + 1, 0, none⟩ (.string a0)) (w.heap.size + 1) 146 #[.slice (some ⟨b, o, none⟩) 512 c, .int .i64 E0]) := ka0.other (by omega) _
               have R0 : Hid (BX (v0.setCell ⟨w.heap.size + 1 + 1, 0, none⟩ (.string a0)) (w.heap.size + 1 + 1) 64 #[.string a0, .string ⟨#[]⟩, .int .i64 0, .int .i64 0, .int .i64 0, .int .i64 0, .int .i64 0, .int .u8 0, .string ⟨#[]⟩]) := kh.set 0 _
               have S0 : Hid (Below w.heap.size w (v0.setCell ⟨w.heap.size + 1 + 1, 0, none⟩ (.string a0))) := kw.setCell (by simp only []; omega) _
               clear ka0 ot0 kr kh kw)
            | (go_at_call 107; (with_reducible refine (rtext_at (w.heap.size + 1) w.heap.size c 0 100 (some ⟨b, o, none⟩) 0 100 rfl rfl xs E0 a1 E1 H1.out _ Q0.out (HA.out.below S0.out) HX.out (by omega) hc hc2 (by omega) (by omega)).mono ?_); rintro e v1 ⟨rfl, ka1, ot1⟩
               have kr := (P0.out).oth ot1 (by omega)
               have kh := (R0.out).oth ot1 (by omega)
               have kw : Below w.heap.size w v1 := (S0.out).trans (ot1.below (by omega) (S0.out).size)
               have kc : v1.cell? ⟨w.heap.size + 1 + 1, 1, none⟩ = some (.string ⟨#[]⟩) := kh.cell rfl
               have kf := kh.free 1
               have P1 : Hid (BX (v1.setCell ⟨w.heap.size + 1 + 1, 1, none⟩ (.string a1)) w.heap.size 64 #[.string ⟨#[]⟩, .string ⟨#[]⟩, .int .i64 0, .int .i64 0, .int .i64 0, .int .i64 0, .int .i64 0, .int .u8 0, .string ⟨#[]⟩]) := kr.other (by omega) _
               have Q1 : Hid (BX (v1.setCell ⟨w.heap.size + 1 + 1, 1, none⟩ (.string a1)) (w.heap.size + 1) 146 #[.slice (some ⟨b, o, none⟩) 512 c, .int .i64 E1]) := ka1.other (by omega) _
               have R1 : Hid (BX (v1.setCell ⟨w.heap.size + 1 + 1, 1, none⟩ (.string a1)) (w.heap.size + 1 + 1) 64 #[.string a0, .string a1, .int .i64 0, .int .i64 0, .int .i64 0, .int .i64 0, .int .i64 0, .int .u8 0, .string ⟨#[]⟩]) := kh.set 1 _
               have S1 : Hid (Below w.heap.size w (v1.setCell ⟨w.heap.size + 1 + 1, 1, none⟩ (.string a1))) := kw.setCell (by simp only []; omega) _
               clear ka1 ot1 kr kh kw)
            | (go_at_call 107; (with_reducible refine (rtext_at (w.heap.size + 1) w.heap.size c 157 100 (some ⟨b, o, none⟩) 157 100 rfl rfl xs E1 a2 E2 H2.out _ Q1.out (HA.out.below S1.out) HX.out (by omega) hc hc2 (by omega) (by omega)).mono ?_); rintro e v2 ⟨rfl, ka2, ot2⟩
               have kr := (P1.out).oth ot2 (by omega)
               have kh := (R1.out).oth ot2 (by omega)
               have kw : Below w.heap.size w v2 := (S1.out).trans (ot2.below (by omega) (S1.out).size)
               have kc : v2.cell? ⟨w.heap.size + 1 + 1, 8, none⟩ = some (.string ⟨#[]⟩) := kh.cell rfl
               have kf := kh.free 8
               have P2 : Hid (BX (v2.setCell ⟨w.heap.size + 1 + 1, 8, none⟩ (.string a2)) w.heap.size 64 #[.string ⟨#[]⟩, .string ⟨#[]⟩, .int .i64 0, .int .i64 0, .int .i64 0, .int .i64 0, .int .i64 0, .int .u8 0, .string ⟨#[]⟩]) := kr.other (by omega) _
               have Q2 : Hid (BX (v2.setCell ⟨w.heap.size + 1 + 1, 8, none⟩ (.string a2)) (w.heap.size + 1) 146 #[.slice (some ⟨b, o, none⟩) 512 c, .int .i64 E2]) := ka2.other (by omega) _
               have R2 : Hid (BX (v2.setCell ⟨w.heap.size + 1 + 1, 8, none⟩ (.string a2)) (w.heap.size + 1 + 1) 64 #[.string a0, .string a1, .int .i64 0, .int .i64 0, .int .i64 0, .int .i64 0, .int .i64 0, .int .u8 0, .string a2]) := kh.set 8 _
               have S2 : Hid (Below w.heap.size w (v2.setCell ⟨w.heap.size + 1 + 1, 8, none⟩ (.string a2))) := kw.setCell (by simp only []; omega) _
               clear ka2 ot2 kr kh kw)
            | (go_at_call 108; (with_reducible refine (rnum_at (w.heap.size + 1) w.heap.size c 100 8 (some ⟨b, o, none⟩) 100 8 rfl rfl xs E2 a3 E3 H3.out _ Q2.out (HA.out.below S2.out) HX.out (by omega) hc hc2 (by omega) (by omega)).mono ?_); rintro e v3 ⟨rfl, ka3, ot3⟩
               have kr := (P2.out).oth ot3 (by omega)
               have kh := (R2.out).oth ot3 (by omega)
               have kw : Below w.heap.size w v3 := (S2.out).trans (ot3.below (by omega) (S2.out).size)
               have kc : v3.cell? ⟨w.heap.size + 1 + 1, 2, none⟩ = some (.int .i64 0) := kh.cell rfl
               have kf := kh.free 2
               have P3 : Hid (BX (v3.setCell ⟨w.heap.size + 1 + 1, 2, none⟩ (.int .i64 a3)) w.heap.size 64 #[.string ⟨#[]⟩, .string ⟨#[]⟩, .int .i64 0, .int .i64 0, .int .i64 0, .int .i64 0, .int .i64 0, .int .u8 0, .string ⟨#[]⟩]) := kr.other (by omega) _
               have Q3 : Hid (BX (v3.setCell ⟨w.heap.size + 1 + 1, 2, none⟩ (.int .i64 a3)) (w.heap.size + 1) 146 #[.slice (some ⟨b, o, none⟩) 512 c, .int .i64 E3]) := ka3.other (by omega) _
               have R3 : Hid (BX (v3.setCell ⟨w.heap.size + 1 + 1, 2, none⟩ (.int .i64 a3)) (w.heap.size + 1 + 1) 64 #[.string a0, .string a1, .int .i64 a3, .int .i64 0, .int .i64 0, .int .i64 0, .int .i64 0, .int .u8 0, .string a2]) := kh.set 2 _
               have S3 : Hid (Below w.heap.size w (v3.setCell ⟨w.heap.size + 1 + 1, 2, none⟩ (.int .i64 a3))) := kw.setCell (by simp only []; omega) _
               clear ka3 ot3 kr kh kw)
            | (go_at_call 108; (with_reducible refine (rnum_at (w.heap.size + 1) w.heap.size c 108 8 (some ⟨b, o, none⟩) 108 8 rfl rfl xs E3 a4 E4 H4.out _ Q3.out (HA.out.below S3.out) HX.out (by omega) hc hc2 (by omega) (by omega)).mono ?_); rintro e v4 ⟨rfl, ka4, ot4⟩
               have kr := (P3.out).oth ot4 (by omega)
               have kh := (R3.out).oth ot4 (by omega)
               have kw : Below w.heap.size w v4 := (S3.out).trans (ot4.below (by omega) (S3.out).size)
               have kc : v4.cell? ⟨w.heap.size + 1 + 1, 3, none⟩ = some (.int .i64 0) := kh.cell rfl
               have kf := kh.free 3
               have P4 : Hid (BX (v4.setCell ⟨w.heap.size + 1 + 1, 3, none⟩ (.int .i64 a4)) w.heap.size 64 #[.string ⟨#[]⟩, .string ⟨#[]⟩, .int .i64 0, .int .i64 0, .int .i64 0, .int .i64 0, .int .i64 0, .int .u8 0, .string ⟨#[]⟩]) := kr.other (by omega) _
               have Q4 : Hid (BX (v4.setCell ⟨w.heap.size + 1 + 1, 3, none⟩ (.int .i64 a4)) (w.heap.size + 1) 146 #[.slice (some ⟨b, o, none⟩) 512 c, .int .i64 E4]) := ka4.other (by omega) _
               have R4 : Hid (BX (v4.setCell ⟨w.heap.size + 1 + 1, 3, none⟩ (.int .i64 a4)) (w.heap.size + 1 + 1) 64 #[.string a0, .string a1, .int .i64 a3, .int .i64 a4, .int .i64 0, .int .i64 0, .int .i64 0, .int .u8 0, .string a2]) := kh.set 3 _
               have S4 : Hid (Below w.heap.size w (v4.setCell ⟨w.heap.size + 1 + 1, 3, none⟩ (.int .i64 a4))) := kw.setCell (by simp only []; omega) _
               clear ka4 ot4 kr kh kw)
            | (go_at_call 108; (with_reducible refine (rnum_at (w.heap.size + 1) w.heap.size c 116 8 (some ⟨b, o, none⟩) 116 8 rfl rfl xs E4 a5 E5 H5.out _ Q4.out (HA.out.below S4.out) HX.out (by omega) hc hc2 (by omega) (by omega)).mono ?_); rintro e v5 ⟨rfl, ka5, ot5⟩
               have kr := (P4.out).oth ot5 (by omega)
               have kh := (R4.out).oth ot5 (by omega)
               have kw : Below w.heap.size w v5 := (S4.out).trans (ot5.below (by omega) (S4.out).size)
               have kc : v5.cell? ⟨w.heap.size + 1 + 1, 4, none⟩ = some (.int .i64 0) := kh.cell rfl
               have kf := kh.free 4
               have P5 : Hid (BX (v5.setCell ⟨w.heap.size + 1 + 1, 4, none⟩ (.int .i64 a5)) w.heap.size 64 #[.string ⟨#[]⟩, .string ⟨#[]⟩, .int .i64 0, .int .i64 0, .int .i64 0, .int .i64 0, .int .i64 0, .int .u8 0, .string ⟨#[]⟩]) := kr.other (by omega) _
               have Q5 : Hid (BX (v5.setCell ⟨w.heap.size + 1 + 1, 4, none⟩ (.int .i64 a5)) (w.heap.size + 1) 146 #[.slice (some ⟨b, o, none⟩) 512 c, .int .i64 E5]) := ka5.other (by omega) _
               have R5 : Hid (BX (v5.setCell ⟨w.heap.size + 1 + 1, 4, none⟩ (.int .i64 a5)) (w.heap.size + 1 + 1) 64 #[.string a0, .string a1, .int .i64 a3, .int .i64 a4, .int .i64 a5, .int .i64 0, .int .i64 0, .int .u8 0, .string a2]) := kh.set 4 _
               have S5 : Hid (Below w.heap.size w (v5.setCell ⟨w.heap.size + 1 + 1, 4, none⟩ (.int .i64 a5))) := kw.setCell (by simp only []; omega) _
               clear ka5 ot5 kr kh kw)
            | (go_at_call 108; (with_reducible refine (rnum_at (w.heap.size + 1) w.heap.size c 124 12 (some ⟨b, o, none⟩) 124 12 rfl rfl xs E5 a6 E6 H6.out _ Q5.out (HA.out.below S5.out) HX.out (by omega) hc hc2 (by omega) (by omega)).mono ?_); rintro e v6 ⟨rfl, ka6, ot6⟩
               have kr := (P5.out).oth ot6 (by omega)
               have kh := (R5.out).oth ot6 (by omega)
               have kw : Below w.heap.size w v6 := (S5.out).trans (ot6.below (by omega) (S5.out).size)
               have kc : v6.cell? ⟨w.heap.size + 1 + 1, 6, none⟩ = some (.int .i64 0) := kh.cell rfl
               have kf := kh.free 6
               have P6 : Hid (BX (v6.setCell ⟨w.heap.size + 1 + 1, 6, none⟩ (.int .i64 a6)) w.heap.size 64 #[.string ⟨#[]⟩, .string ⟨#[]⟩, .int .i64 0, .int .i64 0, .int .i64 0, .int .i64 0, .int .i64 0, .int .u8 0, .string ⟨#[]⟩]) := kr.other (by omega) _
               have Q6 : Hid (BX (v6.setCell ⟨w.heap.size + 1 + 1, 6, none⟩ (.int .i64 a6)) (w.heap.size + 1) 146 #[.slice (some ⟨b, o, none⟩) 512 c, .int .i64 E6]) := ka6.other (by omega) _
               have R6 : Hid (BX (v6.setCell ⟨w.heap.size + 1 + 1, 6, none⟩ (.int .i64 a6)) (w.heap.size + 1 + 1) 64 #[.string a0, .string a1, .int .i64 a3, .int .i64 a4, .int .i64 a5, .int .i64 0, .int .i64 a6, .int .u8 0, .string a2]) := kh.set 6 _
               have S6 : Hid (Below w.heap.size w (v6.setCell ⟨w.heap.size + 1 + 1, 6, none⟩ (.int .i64 a6))) := kw.setCell (by simp only []; omega) _
               clear ka6 ot6 kr kh kw)
            | (go_at_call 108; (with_reducible refine (rnum_at (w.heap.size + 1) w.heap.size c 136 12 (some ⟨b, o, none⟩) 136 12 rfl rfl xs E6 a7 0 H7.out _ Q6.out (HA.out.below S6.out) HX.out (by omega) hc hc2 (by omega) (by omega)).mono ?_); rintro e v7 ⟨rfl, ka7, ot7⟩
               have kr := (P6.out).oth ot7 (by omega)
               have kh := (R6.out).oth ot7 (by omega)
               have kw : Below w.heap.size w v7 := (S6.out).trans (ot7.below (by omega) (S6.out).size)
               have kc : v7.cell? ⟨w.heap.size + 1 + 1, 5, none⟩ = some (.int .i64 0) := kh.cell rfl
               have kf := kh.free 5
               have P7 : Hid (BX (v7.setCell ⟨w.heap.size + 1 + 1, 5, none⟩ (.int .i64 a7)) w.heap.size 64 #[.string ⟨#[]⟩, .string ⟨#[]⟩, .int .i64 0, .int .i64 0, .int .i64 0, .int .i64 0, .int .i64 0, .int .u8 0, .string ⟨#[]⟩]) := kr.other (by omega) _
               have Q7 : Hid (BX (v7.setCell ⟨w.heap.size + 1 + 1, 5, none⟩ (.int .i64 a7)) (w.heap.size + 1) 146 #[.slice (some ⟨b, o, none⟩) 512 c, .int .i64 0]) := ka7.other (by omega) _
               have R7 : Hid (BX (v7.setCell ⟨w.heap.size + 1 + 1, 5, none⟩ (.int .i64 a7)) (w.heap.size + 1 + 1) 64 #[.string a0, .string a1, .int .i64 a3, .int .i64 a4, .int .i64 a5, .int .i64 a7, .int .i64 a6, .int .u8 0, .string a2]) := kh.set 5 _
               have S7 : Hid (Below w.heap.size w (v7.setCell ⟨w.heap.size + 1 + 1, 5, none⟩ (.int .i64 a7))) := kw.setCell (by simp only []; omega) _
               have kb1 := ATB.out _ S7.out
               clear ka7 ot7 kr kh kw)
            | (go_at_call 109; (with_reducible refine (RDT.out _).mono ?_); rintro e w1 ⟨rfl, rfl⟩
               have kc : (v7.setCell ⟨w.heap.size + 1 + 1, 5, none⟩ (.int .i64 a7)).cell? ⟨w.heap.size + 1 + 1, 7, none⟩ = some (.int .u8 0) := R7.out.cell rfl
               have kf := R7.out.free 7
               have P8 : Hid (BX ((v7.setCell ⟨w.heap.size + 1 + 1, 5, none⟩ (.int .i64 a7)).setCell ⟨w.heap.size + 1 + 1, 7, none⟩ (.int .u8 K)) w.heap.size 64 #[.string ⟨#[]⟩, .string ⟨#[]⟩, .int .i64 0, .int .i64 0, .int .i64 0, .int .i64 0, .int .i64 0, .int .u8 0, .string ⟨#[]⟩]) := P7.out.other (by omega) _
               have Q8 : Hid (BX ((v7.setCell ⟨w.heap.size + 1 + 1, 5, none⟩ (.int .i64 a7)).setCell ⟨w.heap.size + 1 + 1, 7, none⟩ (.int .u8 K)) (w.heap.size + 1) 146 #[.slice (some ⟨b, o, none⟩) 512 c, .int .i64 0]) := Q7.out.other (by omega) _
               have R8 : Hid (BX ((v7.setCell ⟨w.heap.size + 1 + 1, 5, none⟩ (.int .i64 a7)).setCell ⟨w.heap.size + 1 + 1, 7, none⟩ (.int .u8 K)) (w.heap.size + 1 + 1) 64 #[.string a0, .string a1, .int .i64 a3, .int .i64 a4, .int .i64 a5, .int .i64 a7, .int .i64 a6, .int .u8 K, .string a2]) := R7.out.set 7 _
               have S8 : Hid (Below w.heap.size w ((v7.setCell ⟨w.heap.size + 1 + 1, 5, none⟩ (.int .i64 a7)).setCell ⟨w.heap.size + 1 + 1, 7, none⟩ (.int .u8 K))) := S7.out.setCell (by simp only []; omega) _
               have qe : ((v7.setCell ⟨w.heap.size + 1 + 1, 5, none⟩ (.int .i64 a7)).setCell ⟨w.heap.size + 1 + 1, 7, none⟩ (.int .u8 K)).cell? ⟨w.heap.size + 1, 1, none⟩ = some (.int .i64 0) := Q8.out.cell rfl
               have qh0 : ((v7.setCell ⟨w.heap.size + 1 + 1, 5, none⟩ (.int .i64 a7)).setCell ⟨w.heap.size + 1 + 1, 7, none⟩ (.int .u8 K)).cell? ⟨w.heap.size + 1 + 1, 0, none⟩ = some (.string a0) := R8.out.cell rfl
               have qr0 : ((v7.setCell ⟨w.heap.size + 1 + 1, 5, none⟩ (.int .i64 a7)).setCell ⟨w.heap.size + 1 + 1, 7, none⟩ (.int .u8 K)).cell? ⟨w.heap.size, 0, none⟩ = some (.string ⟨#[]⟩) := P8.out.cell rfl
               have qf0 : ((v7.setCell ⟨w.heap.size + 1 + 1, 5, none⟩ (.int .i64 a7)).setCell ⟨w.heap.size + 1 + 1, 7, none⟩ (.int .u8 K)).frozen? ⟨w.heap.size, 0, none⟩ = false := P8.out.free 0
               have qh1 : ((v7.setCell ⟨w.heap.size + 1 + 1, 5, none⟩ (.int .i64 a7)).setCell ⟨w.heap.size + 1 + 1, 7, none⟩ (.int .u8 K)).cell? ⟨w.heap.size + 1 + 1, 1, none⟩ = some (.string a1) := R8.out.cell rfl
               have qr1 : ((v7.setCell ⟨w.heap.size + 1 + 1, 5, none⟩ (.int .i64 a7)).setCell ⟨w.heap.size + 1 + 1, 7, none⟩ (.int .u8 K)).cell? ⟨w.heap.size, 1, none⟩ = some (.string ⟨#[]⟩) := P8.out.cell rfl
               have qf1 : ((v7.setCell ⟨w.heap.size + 1 + 1, 5, none⟩ (.int .i64 a7)).setCell ⟨w.heap.size + 1 + 1, 7, none⟩ (.int .u8 K)).frozen? ⟨w.heap.size, 1, none⟩ = false := P8.out.free 1
               have qh2 : ((v7.setCell ⟨w.heap.size + 1 + 1, 5, none⟩ (.int .i64 a7)).setCell ⟨w.heap.size + 1 + 1, 7, none⟩ (.int .u8 K)).cell? ⟨w.heap.size + 1 + 1, 2, none⟩ = some (.int .i64 a3) := R8.out.cell rfl
               have qr2 : ((v7.setCell ⟨w.heap.size + 1 + 1, 5, none⟩ (.int .i64 a7)).setCell ⟨w.heap.size + 1 + 1, 7, none⟩ (.int .u8 K)).cell? ⟨w.heap.size, 2, none⟩ = some (.int .i64 0) := P8.out.cell rfl
               have qf2 : ((v7.setCell ⟨w.heap.size + 1 + 1, 5, none⟩ (.int .i64 a7)).setCell ⟨w.heap.size + 1 + 1, 7, none⟩ (.int .u8 K)).frozen? ⟨w.heap.size, 2, none⟩ = false := P8.out.free 2
               have qh3 : ((v7.setCell ⟨w.heap.size + 1 + 1, 5, none⟩ (.int .i64 a7)).setCell ⟨w.heap.size + 1 + 1, 7, none⟩ (.int .u8 K)).cell? ⟨w.heap.size + 1 + 1, 3, none⟩ = some (.int .i64 a4) := R8.out.cell rfl
               have qr3 : ((v7.setCell ⟨w.heap.size + 1 + 1, 5, none⟩ (.int .i64 a7)).setCell ⟨w.heap.size + 1 + 1, 7, none⟩ (.int .u8 K)).cell? ⟨w.heap.size, 3, none⟩ = some (.int .i64 0) := P8.out.cell rfl
               have qf3 : ((v7.setCell ⟨w.heap.size + 1 + 1, 5, none⟩ (.int .i64 a7)).setCell ⟨w.heap.size + 1 + 1, 7, none⟩ (.int .u8 K)).frozen? ⟨w.heap.size, 3, none⟩ = false := P8.out.free 3
               have qh4 : ((v7.setCell ⟨w.heap.size + 1 + 1, 5, none⟩ (.int .i64 a7)).setCell ⟨w.heap.size + 1 + 1, 7, none⟩ (.int .u8 K)).cell? ⟨w.heap.size + 1 + 1, 4, none⟩ = some (.int .i64 a5) := R8.out.cell rfl
               have qr4 : ((v7.setCell ⟨w.heap.size + 1 + 1, 5, none⟩ (.int .i64 a7)).setCell ⟨w.heap.size + 1 + 1, 7, none⟩ (.int .u8 K)).cell? ⟨w.heap.size, 4, none⟩ = some (.int .i64 0) := P8.out.cell rfl
               have qf4 : ((v7.setCell ⟨w.heap.size + 1 + 1, 5, none⟩ (.int .i64 a7)).setCell ⟨w.heap.size + 1 + 1, 7, none⟩ (.int .u8 K)).frozen? ⟨w.heap.size, 4, none⟩ = false := P8.out.free 4
               have qh5 : ((v7.setCell ⟨w.heap.size + 1 + 1, 5, none⟩ (.int .i64 a7)).setCell ⟨w.heap.size + 1 + 1, 7, none⟩ (.int .u8 K)).cell? ⟨w.heap.size + 1 + 1, 5, none⟩ = some (.int .i64 a7) := R8.out.cell rfl
               have qr5 : ((v7.setCell ⟨w.heap.size + 1 + 1, 5, none⟩ (.int .i64 a7)).setCell ⟨w.heap.size + 1 + 1, 7, none⟩ (.int .u8 K)).cell? ⟨w.heap.size, 5, none⟩ = some (.int .i64 0) := P8.out.cell rfl
               have qf5 : ((v7.setCell ⟨w.heap.size + 1 + 1, 5, none⟩ (.int .i64 a7)).setCell ⟨w.heap.size + 1 + 1, 7, none⟩ (.int .u8 K)).frozen? ⟨w.heap.size, 5, none⟩ = false := P8.out.free 5
               have qh6 : ((v7.setCell ⟨w.heap.size + 1 + 1, 5, none⟩ (.int .i64 a7)).setCell ⟨w.heap.size + 1 + 1, 7, none⟩ (.int .u8 K)).cell? ⟨w.heap.size + 1 + 1, 6, none⟩ = some (.int .i64 a6) := R8.out.cell rfl
               have qr6 : ((v7.setCell ⟨w.heap.size + 1 + 1, 5, none⟩ (.int .i64 a7)).setCell ⟨w.heap.size + 1 + 1, 7, none⟩ (.int .u8 K)).cell? ⟨w.heap.size, 6, none⟩ = some (.int .i64 0) := P8.out.cell rfl
               have qf6 : ((v7.setCell ⟨w.heap.size + 1 + 1, 5, none⟩ (.int .i64 a7)).setCell ⟨w.heap.size + 1 + 1, 7, none⟩ (.int .u8 K)).frozen? ⟨w.heap.size, 6, none⟩ = false := P8.out.free 6
               have qh7 : ((v7.setCell ⟨w.heap.size + 1 + 1, 5, none⟩ (.int .i64 a7)).setCell ⟨w.heap.size + 1 + 1, 7, none⟩ (.int .u8 K)).cell? ⟨w.heap.size + 1 + 1, 7, none⟩ = some (.int .u8 K) := R8.out.cell rfl
               have qr7 : ((v7.setCell ⟨w.heap.size + 1 + 1, 5, none⟩ (.int .i64 a7)).setCell ⟨w.heap.size + 1 + 1, 7, none⟩ (.int .u8 K)).cell? ⟨w.heap.size, 7, none⟩ = some (.int .u8 0) := P8.out.cell rfl
               have qf7 : ((v7.setCell ⟨w.heap.size + 1 + 1, 5, none⟩ (.int .i64 a7)).setCell ⟨w.heap.size + 1 + 1, 7, none⟩ (.int .u8 K)).frozen? ⟨w.heap.size, 7, none⟩ = false := P8.out.free 7
               have qh8 : ((v7.setCell ⟨w.heap.size + 1 + 1, 5, none⟩ (.int .i64 a7)).setCell ⟨w.heap.size + 1 + 1, 7, none⟩ (.int .u8 K)).cell? ⟨w.heap.size + 1 + 1, 8, none⟩ = some (.string a2) := R8.out.cell rfl
               have qr8 : ((v7.setCell ⟨w.heap.size + 1 + 1, 5, none⟩ (.int .i64 a7)).setCell ⟨w.heap.size + 1 + 1, 7, none⟩ (.int .u8 K)).cell? ⟨w.heap.size, 8, none⟩ = some (.string ⟨#[]⟩) := P8.out.cell rfl
               have qf8 : ((v7.setCell ⟨w.heap.size + 1 + 1, 5, none⟩ (.int .i64 a7)).setCell ⟨w.heap.size + 1 + 1, 7, none⟩ (.int .u8 K)).frozen? ⟨w.heap.size, 8, none⟩ = false := P8.out.free 8)
            | (go_at_call 110; (with_reducible refine (IST.out _).mono ?_); rintro e w1 ⟨rfl, rfl⟩))
          refine bodyPost_ret (v := .tuple #[.agg #[.string ⟨#[]⟩, .string ⟨#[]⟩, .int .i64 0, .int .i64 0, .int .i64 0, .int .i64 0, .int .i64 0, .int .u8 0, .string ⟨#[]⟩], .int .i64 11]) (by simp [results, Tryz.f74, go_sem, *]) rfl ⟨rfl, ?_⟩
          exact (((((((((S8.out).setCell (Nat.le_refl _) _).setCell (Nat.le_refl _) _).setCell (Nat.le_refl _) _).setCell (Nat.le_refl _) _).setCell (Nat.le_refl _) _).setCell (Nat.le_refl _) _).setCell (Nat.le_refl _) _).setCell (Nat.le_refl _) _).setCell (Nat.le_refl _) _
        · rw [hI, if_pos rfl] at pe
          have ist := IST.out
          rw [hI] at ist
          have IST := Lib.hid ist; clear ist hI
          cases hL : Hh.bel a3 a4 a5 a6
          · rw [hL, if_neg (by decide)] at pe
            have pv := PVQ.out pe
            rw [pv, pe]
            unfold Hh.hdr
            have bel := BEL.out
            rw [hL] at bel
            have BEL := Lib.hid bel; clear bel pe PVQ PV0 hL pv
            go_enter Tryz.func74, Tryz.ntmps74
            go_wp2_with (first
              | (go_at_call 106; (with_reducible refine (CHK.out _ ((Below.refl _ _).alloc (Nat.le_refl _) _)).mono ?_); rintro e w1 ⟨rfl, rfl⟩)
              | (go_at_call 107; (with_reducible refine (rtext_at (w.heap.size + 1) w.heap.size c 345 155 (some ⟨b, o, none⟩) 345 155 rfl rfl xs 0 a0 E0 H0.out _ X1.out (HA.out.below X3.out) HX.out (by omega) hc hc2 (by omega) (by omega)).mono ?_); rintro e v0 ⟨rfl, ka0, ot0⟩
                 have kr := (X0.out).oth ot0 (by omega)
                 have kh := (X2.out).oth ot0 (by omega)
                 have kw : Below w.heap.size w v0 := (X3.out).trans (ot0.below (by omega) (X3.out).size)
                 have kc : v0.cell? ⟨w.heap.size + 1 + 1, 0, none⟩ = some (.string ⟨#[]⟩) := kh.cell rfl
                 have kf := kh.free 0
                 have P0 : Hid (BX (v0.setCell ⟨w.heap.size + 1 + 1, 0, none⟩ (.string a0)) w.heap.size 64 #[.string ⟨#[]⟩, .string ⟨#[]⟩, .int .i64 0, .int .i64 0, .int .i64 0, .int .i64 0, .int .i64 0, .int .u8 0, .string ⟨#[]⟩]) := kr.other (by omega) _
                 have Q0 : Hid (BX (v0.setCell ⟨w.heap.size + 1 + 1, 0, none⟩ (.string a0)) (w.heap.size + 1) 146 #[.slice (some ⟨b, o, none⟩) 512 c, .int .i64 E0]) := ka0.other (by omega) _
                 have R0 : Hid (BX (v0.setCell ⟨w.heap.size + 1 + 1, 0, none⟩ (.string a0)) (w.heap.size + 1 + 1) 64 #[.string a0, .string ⟨#[]⟩, .int .i64 0, .int .i64 0, .int .i64 0, .int .i64 0, .int .i64 0, .int .u8 0, .string ⟨#[]⟩]) := kh.set 0 _
                 have S0 : Hid (Below w.heap.size w (v0.setCell ⟨w.heap.size + 1 + 1, 0, none⟩ (.string a0))) := kw.setCell (by simp only []; omega) _
                 clear ka0 ot0 kr kh kw)
              | (go_at_call 107; (with_reducible refine (rtext_at (w.heap.size + 1) w.heap.size c 0 100 (some ⟨b, o, none⟩) 0 100 rfl rfl xs E0 a1 E1 H1.out _ Q0.out (HA.out.below S0.out) HX.out (by omega) hc hc2 (by omega) (by omega)).mono ?_); rintro e v1 ⟨rfl, ka1, ot1⟩
                 have kr := (P0.out).oth ot1 (by omega)
                 have kh := (R0.out).oth ot1 (by omega)
                 have kw : Below w.heap.size w v1 := (S0.out).trans (ot1.below (by omega) (S0.out).size)
                 have kc : v1.cell? ⟨w.heap.size + 1 + 1, 1, none⟩ = some (.string ⟨#[]⟩) := kh.cell rfl
                 have kf := kh.free 1
                 have P1 : Hid (BX (v1.setCell ⟨w.heap.size + 1 + 1, 1, none⟩ (.string a1)) w.heap.size 64 #[.string ⟨#[]⟩, .string ⟨#[]⟩, .int .i64 0, .int .i64 0, .int .i64 0, .int .i64 0, .int .i64 0, .int .u8 0, .string ⟨#[]⟩]) := kr.other (by omega) _
                 have Q1 : Hid (BX (v1.setCell ⟨w.heap.size + 1 + 1, 1, none⟩ (.string a1)) (w.heap.size + 1) 146 #[.slice (some ⟨b, o, none⟩) 512 c, .int .i64 E1]) := ka1.other (by omega) _
                 have R1 : Hid (BX (v1.setCell ⟨w.heap.size + 1 + 1, 1, none⟩ (.string a1)) (w.heap.size + 1 + 1) 64 #[.string a0, .string a1, .int .i64 0, .int .i64 0, .int .i64 0, .int .i64 0, .int .i64 0, .int .u8 0, .string ⟨#[]⟩]) := kh.set 1 _
                 have S1 : Hid (Below w.heap.size w (v1.setCell ⟨w.heap.size + 1 + 1, 1, none⟩ (.string a1))) := kw.setCell (by simp only []; omega) _
                 clear ka1 ot1 kr kh kw)
              | (go_at_call 107; (with_reducible refine (rtext_at (w.heap.size + 1) w.heap.size c 157 100 (some ⟨b, o, none⟩) 157 100 rfl rfl xs E1 a2 E2 H2.out _ Q1.out (HA.out.below S1.out) HX.out (by omega) hc hc2 (by omega) (by omega)).mono ?_); rintro e v2 ⟨rfl, ka2, ot2⟩
                 have kr := (P1.out).oth ot2 (by omega)
                 have kh := (R1.out).oth ot2 (by omega)
                 have kw : Below w.heap.size w v2 := (S1.out).trans (ot2.below (by omega) (S1.out).size)
                 have kc : v2.cell? ⟨w.heap.size + 1 + 1, 8, none⟩ = some (.string ⟨#[]⟩) := kh.cell rfl
                 have kf := kh.free 8
                 have P2 : Hid (BX (v2.setCell ⟨w.heap.size + 1 + 1, 8, none⟩ (.string a2)) w.heap.size 64 #[.string ⟨#[]⟩, .string ⟨#[]⟩, .int .i64 0, .int .i64 0, .int .i64 0, .int .i64 0, .int .i64 0, .int .u8 0, .string ⟨#[]⟩]) := kr.other (by omega) _
                 have Q2 : Hid (BX (v2.setCell ⟨w.heap.size + 1 + 1, 8, none⟩ (.string a2)) (w.heap.size + 1) 146 #[.slice (some ⟨b, o, none⟩) 512 c, .int .i64 E2]) := ka2.other (by omega) _
                 have R2 : Hid (BX (v2.setCell ⟨w.heap.size + 1 + 1, 8, none⟩ (.string a2)) (w.heap.size + 1 + 1) 64 #[.string a0, .string a1, .int .i64 0, .int .i64 0, .int .i64 0, .int .i64 0, .int .i64 0, .int .u8 0, .string a2]) := kh.set 8 _
                 have S2 : Hid (Below w.heap.size w (v2.setCell ⟨w.heap.size + 1 + 1, 8, none⟩ (.string a2))) := kw.setCell (by simp only []; omega) _
                 clear ka2 ot2 kr kh kw)
              | (go_at_call 108; (with_reducible refine (rnum_at (w.heap.size + 1) w.heap.size c 100 8 (some ⟨b, o, none⟩) 100 8 rfl rfl xs E2 a3 E3 H3.out _ Q2.out (HA.out.below S2.out) HX.out (by omega) hc hc2 (by omega) (by omega)).mono ?_); rintro e v3 ⟨rfl, ka3, ot3⟩
                 have kr := (P2.out).oth ot3 (by omega)
                 have kh := (R2.out).oth ot3 (by omega)
                 have kw : Below w.heap.size w v3 := (S2.out).trans (ot3.below (by omega) (S2.out).size)
                 have kc : v3.cell? ⟨w.heap.size + 1 + 1, 2, none⟩ = some (.int .i64 0) := kh.cell rfl
                 have kf := kh.free 2
                 have P3 : Hid (BX (v3.setCell ⟨w.heap.size + 1 + 1, 2, none⟩ (.int .i64 a3)) w.heap.size 64 #[.string ⟨#[]⟩, .string ⟨#[]⟩, .int .i64 0, .int .i64 0, .int .i64 0, .int .i64 0, .int .i64 0, .int .u8 0, .string ⟨#[]⟩]) := kr.other (by omega) _
                 have Q3 : Hid (BX (v3.setCell ⟨w.heap.size + 1 + 1, 2, none⟩ (.int .i64 a3)) (w.heap.size + 1) 146 #[.slice (some ⟨b, o, none⟩) 512 c, .int .i64 E3]) := ka3.other (by omega) _
                 have R3 : Hid (BX (v3.setCell ⟨w.heap.size + 1 + 1, 2, none⟩ (.int .i64 a3)) (w.heap.size + 1 + 1) 64 #[.string a0, .string a1, .int .i64 a3, .int .i64 0, .int .i64 0, .int .i64 0, .int .i64 0, .int .u8 0, .string a2]) := kh.set 2 _
                 have S3 : Hid (Below w.heap.size w (v3.setCell ⟨w.heap.size + 1 + 1, 2, none⟩ (.int .i64 a3))) := kw.setCell (by simp only []; omega) _
                 clear ka3 ot3 kr kh kw)
              | (go_at_call 108; (with_reducible refine (rnum_at (w.heap.size + 1) w.heap.size c 108 8 (some ⟨b, o, none⟩) 108 8 rfl rfl xs E3 a4 E4 H4.out _ Q3.out (HA.out.below S3.out) HX.out (by omega) hc hc2 (by omega) (by omega)).mono ?_); rintro e v4 ⟨rfl, ka4, ot4⟩
                 have kr := (P3.out).oth ot4 (by omega)
                 have kh := (R3.out).oth ot4 (by omega)
                 have kw : Below w.heap.size w v4 := (S3.out).trans (ot4.below (by omega) (S3.out).size)
                 have kc : v4.cell? ⟨w.heap.size + 1 + 1, 3, none⟩ = some (.int .i64 0) := kh.cell rfl
                 have kf := kh.free 3
                 have P4 : Hid (BX (v4.setCell ⟨w.heap.size + 1 + 1, 3, none⟩ (.int .i64 a4)) w.heap.size 64 #[.string ⟨#[]⟩, .string ⟨#[]⟩, .int .i64 0, .int .i64 0, .int .i64 0, .int .i64 0, .int .i64 0, .int .u8 0, .string ⟨#[]⟩]) := kr.other (by omega) _
                 have Q4 : Hid (BX (v4.setCell ⟨w.heap.size + 1 + 1, 3, none⟩ (.int .i64 a4)) (w.heap.size + 1) 146 #[.slice (some ⟨b, o, none⟩) 512 c, .int .i64 E4]) := ka4.other (by omega) _
                 have R4 : Hid (BX (v4.setCell ⟨w.heap.size + 1 + 1, 3, none⟩ (.int .i64 a4)) (w.heap.size + 1 + 1) 64 #[.string a0, .string a1, .int .i64 a3, .int .i64 a4, .int .i64 0, .int .i64 0, .int .i64 0, .int .u8 0, .string a2]) := kh.set 3 _
                 have S4 : Hid (Below w.heap.size w (v4.setCell ⟨w.heap.size + 1 + 1, 3, none⟩ (.int .i64 a4))) := kw.setCell (by simp only []; omega) _
                 clear ka4 ot4 kr kh kw)
              | (go_at_call 108; (with_reducible refine (rnum_at (w.heap.size + 1) w.heap.size c 116 8 (some ⟨b, o, none⟩) 116 8 rfl rfl xs E4 a5 E5 H5.out _ Q4.out (HA.out.below S4.out) HX.out (by omega) hc hc2 (by omega) (by omega)).mono ?_); rintro e v5 ⟨rfl, ka5, ot5⟩
                 have kr := (P4.out).oth ot5 (by omega)
                 have kh := (R4.out).oth ot5 (by omega)
                 have kw : Below w.heap.size w v5 := (S4.out).trans (ot5.below (by omega) (S4.out).size)
                 have kc : v5.cell? ⟨w.heap.size + 1 + 1, 4, none⟩ = some (.int .i64 0) := kh.cell rfl
                 have kf := kh.free 4
                 have P5 : Hid (BX (v5.setCell ⟨w.heap.size + 1 + 1, 4, none⟩ (.int .i64 a5)) w.heap.size 64 #[.string ⟨#[]⟩, .string ⟨#[]⟩, .int .i64 0, .int .i64 0, .int .i64 0, .int .i64 0, .int .i64 0, .int .u8 0, .string ⟨#[]⟩]) := kr.other (by omega) _
                 have Q5 : Hid (BX (v5.setCell ⟨w.heap.size + 1 + 1, 4, none⟩ (.int .i64 a5)) (w.heap.size + 1) 146 #[.slice (some ⟨b, o, none⟩) 512 c, .int .i64 E5]) := ka5.other (by omega) _
                 have R5 : Hid (BX (v5.setCell ⟨w.heap.size + 1 + 1, 4, none⟩ (.int .i64 a5)) (w.heap.size + 1 + 1) 64 #[.string a0, .string a1, .int .i64 a3, .int .i64 a4, .int .i64 a5, .int .i64 0, .int .i64 0, .int .u8 0, .string a2]) := kh.set 4 _
                 have S5 : Hid (Below w.heap.size w (v5.setCell ⟨w.heap.size + 1 + 1, 4, none⟩ (.int .i64 a5))) := kw.setCell (by simp only []; omega) _
                 clear ka5 ot5 kr kh kw)
              | (go_at_call 108; (with_reducible refine (rnum_at (w.heap.size + 1) w.heap.size c 124 12 (some ⟨b, o, none⟩) 124 12 rfl rfl xs E5 a6 E6 H6.out _ Q5.out (HA.out.below S5.out) HX.out (by omega) hc hc2 (by omega) (by omega)).mono ?_); rintro e v6 ⟨rfl, ka6, ot6⟩
                 have kr := (P5.out).oth ot6 (by omega)
                 have kh := (R5.out).oth ot6 (by omega)
                 have kw : Below w.heap.size w v6 := (S5.out).trans (ot6.below (by omega) (S5.out).size)
                 have kc : v6.cell? ⟨w.heap.size + 1 + 1, 6, none⟩ = some (.int .i64 0) := kh.cell rfl
                 have kf := kh.free 6
                 have P6 : Hid (BX (v6.setCell ⟨w.heap.size + 1 + 1, 6, none⟩ (.int .i64 a6)) w.heap.size 64 #[.string ⟨#[]⟩, .string ⟨#[]⟩, .int .i64 0, .int .i64 0, .int .i64 0, .int .i64 0, .int .i64 0, .int .u8 0, .string ⟨#[]⟩]) := kr.other (by omega) _
                 have Q6 : Hid (BX (v6.setCell ⟨w.heap.size + 1 + 1, 6, none⟩ (.int .i64 a6)) (w.heap.size + 1) 146 #[.slice (some ⟨b, o, none⟩) 512 c, .int .i64 E6]) := ka6.other (by omega) _
                 have R6 : Hid (BX (v6.setCell ⟨w.heap.size + 1 + 1, 6, none⟩ (.int .i64 a6)) (w.heap.size + 1 + 1) 64 #[.string a0, .string a1, .int .i64 a3, .int .i64 a4, .int .i64 a5, .int .i64 0, .int .i64 a6, .int .u8 0, .string a2]) := kh.set 6 _
                 have S6 : Hid (Below w.heap.size w (v6.setCell ⟨w.heap.size + 1 + 1, 6, none⟩ (.int .i64 a6))) := kw.setCell (by simp only []; omega) _
                 clear ka6 ot6 kr kh kw)
              | (go_at_call 108; (with_reducible refine (rnum_at (w.heap.size + 1) w.heap.size c 136 12 (some ⟨b, o, none⟩) 136 12 rfl rfl xs E6 a7 0 H7.out _ Q6.out (HA.out.below S6.out) HX.out (by omega) hc hc2 (by omega) (by omega)).mono ?_); rintro e v7 ⟨rfl, ka7, ot7⟩
                 have kr := (P6.out).oth ot7 (by omega)
                 have kh := (R6.out).oth ot7 (by omega)
                 have kw : Below w.heap.size w v7 := (S6.out).trans (ot7.below (by omega) (S6.out).size)
                 have kc : v7.cell? ⟨w.heap.size + 1 + 1, 5, none⟩ = some (.int .i64 0) := kh.cell rfl
                 have kf := kh.free 5
                 have P7 : Hid (BX (v7.setCell ⟨w.heap.size + 1 + 1, 5, none⟩ (.int .i64 a7)) w.heap.size 64 #[.string ⟨#[]⟩, .string ⟨#[]⟩, .int .i64 0, .int .i64 0, .int .i64 0, .int .i64 0, .int .i64 0, .int .u8 0, .string ⟨#[]⟩]) := kr.other (by omega) _
                 have Q7 : Hid (BX (v7.setCell ⟨w.heap.size + 1 + 1, 5, none⟩ (.int .i64 a7)) (w.heap.size + 1) 146 #[.slice (some ⟨b, o, none⟩) 512 c, .int .i64 0]) := ka7.other (by omega) _
                 have R7 : Hid (BX (v7.setCell ⟨w.heap.size + 1 + 1, 5, none⟩ (.int .i64 a7)) (w.heap.size + 1 + 1) 64 #[.string a0, .string a1, .int .i64 a3, .int .i64 a4, .int .i64 a5, .int .i64 a7, .int .i64 a6, .int .u8 0, .string a2]) := kh.set 5 _
                 have S7 : Hid (Below w.heap.size w (v7.setCell ⟨w.heap.size + 1 + 1, 5, none⟩ (.int .i64 a7))) := kw.setCell (by simp only []; omega) _
                 have kb1 := ATB.out _ S7.out
                 clear ka7 ot7 kr kh kw)
              | (go_at_call 109; (with_reducible refine (RDT.out _).mono ?_); rintro e w1 ⟨rfl, rfl⟩
                 have kc : (v7.setCell ⟨w.heap.size + 1 + 1, 5, none⟩ (.int .i64 a7)).cell? ⟨w.heap.size + 1 + 1, 7, none⟩ = some (.int .u8 0) := R7.out.cell rfl
                 have kf := R7.out.free 7
                 have P8 : Hid (BX ((v7.setCell ⟨w.heap.size + 1 + 1, 5, none⟩ (.int .i64 a7)).setCell ⟨w.heap.size + 1 + 1, 7, none⟩ (.int .u8 K)) w.heap.size 64 #[.string ⟨#[]⟩, .string ⟨#[]⟩, .int .i64 0, .int .i64 0, .int .i64 0, .int .i64 0, .int .i64 0, .int .u8 0, .string ⟨#[]⟩]) := P7.out.other (by omega) _
                 have Q8 : Hid (BX ((v7.setCell ⟨w.heap.size + 1 + 1, 5, none⟩ (.int .i64 a7)).setCell ⟨w.heap.size + 1 + 1, 7, none⟩ (.int .u8 K)) (w.heap.size + 1) 146 #[.slice (some ⟨b, o, none⟩) 512 c, .int .i64 0]) := Q7.out.other (by omega) _
                 have R8 : Hid (BX ((v7.setCell ⟨w.heap.size + 1 + 1, 5, none⟩ (.int .i64 a7)).setCell ⟨w.heap.size + 1 + 1, 7, none⟩ (.int .u8 K)) (w.heap.size + 1 + 1) 64 #[.string a0, .string a1, .int .i64 a3, .int .i64 a4, .int .i64 a5, .int .i64 a7, .int .i64 a6, .int .u8 K, .string a2]) := R7.out.set 7 _
                 have S8 : Hid (Below w.heap.size w ((v7.setCell ⟨w.heap.size + 1 + 1, 5, none⟩ (.int .i64 a7)).setCell ⟨w.heap.size + 1 + 1, 7, none⟩ (.int .u8 K))) := S7.out.setCell (by simp only []; omega) _
                 have qe : ((v7.setCell ⟨w.heap.size + 1 + 1, 5, none⟩ (.int .i64 a7)).setCell ⟨w.heap.size + 1 + 1, 7, none⟩ (.int .u8 K)).cell? ⟨w.heap.size + 1, 1, none⟩ = some (.int .i64 0) := Q8.out.cell rfl
                 have qh0 : ((v7.setCell ⟨w.heap.size + 1 + 1, 5, none⟩ (.int .i64 a7)).setCell ⟨w.heap.size + 1 + 1, 7, none⟩ (.int .u8 K)).cell? ⟨w.heap.size + 1 + 1, 0, none⟩ = some (.string a0) := R8.out.cell rfl
                 have qr0 : ((v7.setCell ⟨w.heap.size + 1 + 1, 5, none⟩ (.int .i64 a7)).setCell ⟨w.heap.size + 1 + 1, 7, none⟩ (.int .u8 K)).cell? ⟨w.heap.size, 0, none⟩ = some (.string ⟨#[]⟩) := P8.out.cell rfl
                 have qf0 : ((v7.setCell ⟨w.heap.size + 1 + 1, 5, none⟩ (.int .i64 a7)).setCell ⟨w.heap.size + 1 + 1, 7, none⟩ (.int .u8 K)).frozen? ⟨w.heap.size, 0, none⟩ = false := P8.out.free 0
                 have qh1 : ((v7.setCell ⟨w.heap.size + 1 + 1, 5, none⟩ (.int .i64 a7)).setCell ⟨w.heap.size + 1 + 1, 7, none⟩ (.int .u8 K)).cell? ⟨w.heap.size + 1 + 1, 1, none⟩ = some (.string a1) := R8.out.cell rfl
                 have qr1 : ((v7.setCell ⟨w.heap.size + 1 + 1, 5, none⟩ (.int .i64 a7)).setCell ⟨w.heap.size + 1 + 1, 7, none⟩ (.int .u8 K)).cell? ⟨w.heap.size, 1, none⟩ = some (.string ⟨#[]⟩) := P8.out.cell rfl
                 have qf1 : ((v7.setCell ⟨w.heap.size + 1 + 1, 5, none⟩ (.int .i64 a7)).setCell ⟨w.heap.size + 1 + 1, 7, none⟩ (.int .u8 K)).frozen? ⟨w.heap.size, 1, none⟩ = false := P8.out.free 1
                 have qh2 : ((v7.setCell ⟨w.heap.size + 1 + 1, 5, none⟩ (.int .i64 a7)).setCell ⟨w.heap.size + 1 + 1, 7, none⟩ (.int .u8 K)).cell? ⟨w.heap.size + 1 + 1, 2, none⟩ = some (.int .i64 a3) := R8.out.cell rfl
                 have qr2 : ((v7.setCell ⟨w.heap.size + 1 + 1, 5, none⟩ (.int .i64 a7)).setCell ⟨w.heap.size + 1 + 1, 7, none⟩ (.int .u8 K)).cell? ⟨w.heap.size, 2, none⟩ = some (.int .i64 0) := P8.out.cell rfl
                 have qf2 : ((v7.setCell ⟨w.heap.size + 1 + 1, 5, none⟩ (.int .i64 a7)).setCell ⟨w.heap.size + 1 + 1, 7, none⟩ (.int .u8 K)).frozen? ⟨w.heap.size, 2, none⟩ = false := P8.out.free 2
                 have qh3 : ((v7.setCell ⟨w.heap.size + 1 + 1, 5, none⟩ (.int .i64 a7)).setCell ⟨w.heap.size + 1 + 1, 7, none⟩ (.int .u8 K)).cell? ⟨w.heap.size + 1 + 1, 3, none⟩ = some (.int .i64 a4) := R8.out.cell rfl
                 have qr3 : ((v7.setCell ⟨w.heap.size + 1 + 1, 5, none⟩ (.int .i64 a7)).setCell ⟨w.heap.size + 1 + 1, 7, none⟩ (.int .u8 K)).cell? ⟨w.heap.size, 3, none⟩ = some (.int .i64 0) := P8.out.cell rfl
                 have qf3 : ((v7.setCell ⟨w.heap.size + 1 + 1, 5, none⟩ (.int .i64 a7)).setCell ⟨w.heap.size + 1 + 1, 7, none⟩ (.int .u8 K)).frozen? ⟨w.heap.size, 3, none⟩ = false := P8.out.free 3
                 have qh4 : ((v7.setCell ⟨w.heap.size + 1 + 1, 5, none⟩ (.int .i64 a7)).setCell ⟨w.heap.size + 1 + 1, 7, none⟩ (.int .u8 K)).cell? ⟨w.heap.size + 1 + 1, 4, none⟩ = some (.int .i64 a5) := R8.out.cell rfl
                 have qr4 : ((v7.setCell ⟨w.heap.size + 1 + 1, 5, none⟩ (.int .i64 a7)).setCell ⟨w.heap.size + 1 + 1, 7, none⟩ (.int .u8 K)).cell? ⟨w.heap.size, 4, none⟩ = some (.int .i64 0) := P8.out.cell rfl
                 have qf4 : ((v7.setCell ⟨w.heap.size + 1 + 1, 5, none⟩ (.int .i64 a7)).setCell ⟨w.heap.size + 1 + 1, 7, none⟩ (.int .u8 K)).frozen? ⟨w.heap.size, 4, none⟩ = false := P8.out.free 4
                 have qh5 : ((v7.setCell ⟨w.heap.size + 1 + 1, 5, none⟩ (.int .i64 a7)).setCell ⟨w.heap.size + 1 + 1, 7, none⟩ (.int .u8 K)).cell? ⟨w.heap.size + 1 + 1, 5, none⟩ = some (.int .i64 a7) := R8.out.cell rfl
                 have qr5 : ((v7.setCell ⟨w.heap.size + 1 + 1, 5, none⟩ (.int .i64 a7)).setCell ⟨w.heap.size + 1 + 1, 7, none⟩ (.int .u8 K)).cell? ⟨w.heap.size, 5, none⟩ = some (.int .i64 0) := P8.out.cell rfl
                 have qf5 : ((v7.setCell ⟨w.heap.size + 1 + 1, 5, none⟩ (.int .i64 a7)).setCell ⟨w.heap.size + 1 + 1, 7, none⟩ (.int .u8 K)).frozen? ⟨w.heap.size, 5, none⟩ = false := P8.out.free 5
                 have qh6 : ((v7.setCell ⟨w.heap.size + 1 + 1, 5, none⟩ (.int .i64 a7)).setCell ⟨w.heap.size + 1 + 1, 7, none⟩ (.int .u8 K)).cell? ⟨w.heap.size + 1 + 1, 6, none⟩ = some (.int .i64 a6) := R8.out.cell rfl
                 have qr6 : ((v7.setCell ⟨w.heap.size + 1 + 1, 5, none⟩ (.int .i64 a7)).setCell ⟨w.heap.size + 1 + 1, 7, none⟩ (.int .u8 K)).cell? ⟨w.heap.size, 6, none⟩ = some (.int .i64 0) := P8.out.cell rfl
                 have qf6 : ((v7.setCell ⟨w.heap.size + 1 + 1, 5, none⟩ (.int .i64 a7)).setCell ⟨w.heap.size + 1 + 1, 7, none⟩ (.int .u8 K)).frozen? ⟨w.heap.size, 6, none⟩ = false := P8.out.free 6
                 have qh7 : ((v7.setCell ⟨w.heap.size + 1 + 1, 5, none⟩ (.int .i64 a7)).setCell ⟨w.heap.size + 1 + 1, 7, none⟩ (.int .u8 K)).cell? ⟨w.heap.size + 1 + 1, 7, none⟩ = some (.int .u8 K) := R8.out.cell rfl
                 have qr7 : ((v7.setCell ⟨w.heap.size + 1 + 1, 5, none⟩ (.int .i64 a7)).setCell ⟨w.heap.size + 1 + 1, 7, none⟩ (.int .u8 K)).cell? ⟨w.heap.size, 7, none⟩ = some (.int .u8 0) := P8.out.cell rfl
                 have qf7 : ((v7.setCell ⟨w.heap.size + 1 + 1, 5, none⟩ (.int .i64 a7)).setCell ⟨w.heap.size + 1 + 1, 7, none⟩ (.int .u8 K)).frozen? ⟨w.heap.size, 7, none⟩ = false := P8.out.free 7
                 have qh8 : ((v7.setCell ⟨w.heap.size + 1 + 1, 5, none⟩ (.int .i64 a7)).setCell ⟨w.heap.size + 1 + 1, 7, none⟩ (.int .u8 K)).cell? ⟨w.heap.size + 1 + 1, 8, none⟩ = some (.string a2) := R8.out.cell rfl
                 have qr8 : ((v7.setCell ⟨w.heap.size + 1 + 1, 5, none⟩ (.int .i64 a7)).setCell ⟨w.heap.size + 1 + 1, 7, none⟩ (.int .u8 K)).cell? ⟨w.heap.size, 8, none⟩ = some (.string ⟨#[]⟩) := P8.out.cell rfl
                 have qf8 : ((v7.setCell ⟨w.heap.size + 1 + 1, 5, none⟩ (.int .i64 a7)).setCell ⟨w.heap.size + 1 + 1, 7, none⟩ (.int .u8 K)).frozen? ⟨w.heap.size, 8, none⟩ = false := P8.out.free 8)
              | (go_at_call 110; (with_reducible refine (IST.out _).mono ?_); rintro e w1 ⟨rfl, rfl⟩)
              | (go_at_call 111; (with_reducible refine (BEL.out _).mono ?_); rintro e u1 ⟨rfl, bu⟩
                 have T8 := P8.out.later bu
                 have TR := R8.out.later bu
                 have TB : Hid (Below w.heap.size w u1) := S8.out.trans (bu.mono S8.out.size)
                 have uh0 : u1.cell? ⟨w.heap.size + 1 + 1, 0, none⟩ = some (.string a0) := TR.cell rfl
                 have ur0 : u1.cell? ⟨w.heap.size, 0, none⟩ = some (.string ⟨#[]⟩) := T8.cell rfl
                 have uf0 : u1.frozen? ⟨w.heap.size, 0, none⟩ = false := T8.free 0
                 have uh1 : u1.cell? ⟨w.heap.size + 1 + 1, 1, none⟩ = some (.string a1) := TR.cell rfl
                 have ur1 : u1.cell? ⟨w.heap.size, 1, none⟩ = some (.string ⟨#[]⟩) := T8.cell rfl
                 have uf1 : u1.frozen? ⟨w.heap.size, 1, none⟩ = false := T8.free 1
                 have uh2 : u1.cell? ⟨w.heap.size + 1 + 1, 2, none⟩ = some (.int .i64 a3) := TR.cell rfl
                 have ur2 : u1.cell? ⟨w.heap.size, 2, none⟩ = some (.int .i64 0) := T8.cell rfl
                 have uf2 : u1.frozen? ⟨w.heap.size, 2, none⟩ = false := T8.free 2
                 have uh3 : u1.cell? ⟨w.heap.size + 1 + 1, 3, none⟩ = some (.int .i64 a4) := TR.cell rfl
                 have ur3 : u1.cell? ⟨w.heap.size, 3, none⟩ = some (.int .i64 0) := T8.cell rfl
                 have uf3 : u1.frozen? ⟨w.heap.size, 3, none⟩ = false := T8.free 3
                 have uh4 : u1.cell? ⟨w.heap.size + 1 + 1, 4, none⟩ = some (.int .i64 a5) := TR.cell rfl
                 have ur4 : u1.cell? ⟨w.heap.size, 4, none⟩ = some (.int .i64 0) := T8.cell rfl
                 have uf4 : u1.frozen? ⟨w.heap.size, 4, none⟩ = false := T8.free 4
                 have uh5 : u1.cell? ⟨w.heap.size + 1 + 1, 5, none⟩ = some (.int .i64 a7) := TR.cell rfl
                 have ur5 : u1.cell? ⟨w.heap.size, 5, none⟩ = some (.int .i64 0) := T8.cell rfl
                 have uf5 : u1.frozen? ⟨w.heap.size, 5, none⟩ = false := T8.free 5
                 have uh6 : u1.cell? ⟨w.heap.size + 1 + 1, 6, none⟩ = some (.int .i64 a6) := TR.cell rfl
                 have ur6 : u1.cell? ⟨w.heap.size, 6, none⟩ = some (.int .i64 0) := T8.cell rfl
                 have uf6 : u1.frozen? ⟨w.heap.size, 6, none⟩ = false := T8.free 6
                 have uh7 : u1.cell? ⟨w.heap.size + 1 + 1, 7, none⟩ = some (.int .u8 K) := TR.cell rfl
                 have ur7 : u1.cell? ⟨w.heap.size, 7, none⟩ = some (.int .u8 0) := T8.cell rfl
                 have uf7 : u1.frozen? ⟨w.heap.size, 7, none⟩ = false := T8.free 7
                 have uh8 : u1.cell? ⟨w.heap.size + 1 + 1, 8, none⟩ = some (.string a2) := TR.cell rfl
                 have ur8 : u1.cell? ⟨w.heap.size, 8, none⟩ = some (.string ⟨#[]⟩) := T8.cell rfl
                 have uf8 : u1.frozen? ⟨w.heap.size, 8, none⟩ = false := T8.free 8
                 clear T8 TR))
            refine bodyPost_ret (v := .tuple #[.agg #[.string a0, .string a1, .int .i64 a3, .int .i64 a4, .int .i64 a5, .int .i64 a7, .int .i64 a6, .int .u8 K, .string a2], .int .i64 0]) (by simp [results, Tryz.f74, go_sem, *]) rfl ⟨rfl, ?_⟩
            exact (((((((((TB.out).setCell (Nat.le_refl _) _).setCell (Nat.le_refl _) _).setCell (Nat.le_refl _) _).setCell (Nat.le_refl _) _).setCell (Nat.le_refl _) _).setCell (Nat.le_refl _) _).setCell (Nat.le_refl _) _).setCell (Nat.le_refl _) _).setCell (Nat.le_refl _) _
          · rw [hL, if_pos rfl] at pe
            rw [PV0.out (by rw [pe]; decide), pe]
            have bel := BEL.out
            rw [hL] at bel
            have BEL := Lib.hid bel; clear bel pe PVQ PV0 hL
            go_enter Tryz.func74, Tryz.ntmps74
            go_wp2_with (first
              | (go_at_call 106; (with_reducible refine (CHK.out _ ((Below.refl _ _).alloc (Nat.le_refl _) _)).mono ?_); rintro e w1 ⟨rfl, rfl⟩)
              | (go_at_call 107; (with_reducible refine (rtext_at (w.heap.size + 1) w.heap.size c 345 155 (some ⟨b, o, none⟩) 345 155 rfl rfl xs 0 a0 E0 H0.out _ X1.out (HA.out.below X3.out) HX.out (by omega) hc hc2 (by omega) (by omega)).mono ?_); rintro e v0 ⟨rfl, ka0, ot0⟩
                 have kr := (X0.out).oth ot0 (by omega)
                 have kh := (X2.out).oth ot0 (by omega)
                 have kw : Below w.heap.size w v0 := (X3.out).trans (ot0.below (by omega) (X3.out).size)
                 have kc : v0.cell? ⟨w.heap.size + 1 + 1, 0, none⟩ = some (.string ⟨#[]⟩) := kh.cell rfl
                 have kf := kh.free 0
                 have P0 : Hid (BX (v0.setCell ⟨w.heap.size + 1 + 1, 0, none⟩ (.string a0)) w.heap.size 64 #[.string ⟨#[]⟩, .string ⟨#[]⟩, .int .i64 0, .int .i64 0, .int .i64 0, .int .i64 0, .int .i64 0, .int .u8 0, .string ⟨#[]⟩]) := kr.other (by omega) _
                 have Q0 : Hid (BX (v0.setCell ⟨w.heap.size + 1 + 1, 0, none⟩ (.string a0)) (w.heap.size + 1) 146 #[.slice (some ⟨b, o, none⟩) 512 c, .int .i64 E0]) := ka0.other (by omega) _
                 have R0 : Hid (BX (v0.setCell ⟨w.heap.size + 1 + 1, 0, none⟩ (.string a0)) (w.heap.size + 1 + 1) 64 #[.string a0, .string ⟨#[]⟩, .int .i64 0, .int .i64 0, .int .i64 0, .int .i64 0, .int .i64 0, .int .u8 0, .string ⟨#[]⟩]) := kh.set 0 _
                 have S0 : Hid (Below w.heap.size w (v0.setCell ⟨w.heap.size + 1 + 1, 0, none⟩ (.string a0))) := kw.setCell (by simp only []; omega) _
                 clear ka0 ot0 kr kh kw)
              | (go_at_call 107; (with_reducible refine (rtext_at (w.heap.size + 1) w.heap.size c 0 100 (some ⟨b, o, none⟩) 0 100 rfl rfl xs E0 a1 E1 H1.out _ Q0.out (HA.out.below S0.out) HX.out (by omega) hc hc2 (by omega) (by omega)).mono ?_); rintro e v1 ⟨rfl, ka1, ot1⟩
                 have kr := (P0.out).oth ot1 (by omega)
                 have kh := (R0.out).oth ot1 (by omega)
                 have kw : Below w.heap.size w v1 := (S0.out).trans (ot1.below (by omega) (S0.out).size)
                 have kc : v1.cell? ⟨w.heap.size + 1 + 1, 1, none⟩ = some (.string ⟨#[]⟩) := kh.cell rfl
                 have kf := kh.free 1
                 have P1 : Hid (BX (v1.setCell ⟨w.heap.size + 1 + 1, 1, none⟩ (.string a1)) w.heap.size 64 #[.string ⟨#[]⟩, .string ⟨#[]⟩, .int .i64 0, .int .i64 0, .int .i64 0, .int .i64 0, .int .i64 0, .int .u8 0, .string ⟨#[]⟩]) := kr.other (by omega) _
                 have Q1 : Hid (BX (v1.setCell ⟨w.heap.size + 1 + 1, 1, none⟩ (.string a1)) (w.heap.size + 1) 146 #[.slice (some ⟨b, o, none⟩) 512 c, .int .i64 E1]) := ka1.other (by omega) _
                 have R1 : Hid (BX (v1.setCell ⟨w.heap.size + 1 + 1, 1, none⟩ (.string a1)) (w.heap.size + 1 + 1) 64 #[.string a0, .string a1, .int .i64 0, .int .i64 0, .int .i64 0, .int .i64 0, .int .i64 0, .int .u8 0, .string ⟨#[]⟩]) := kh.set 1 _
                 have S1 : Hid (Below w.heap.size w (v1.setCell ⟨w.heap.size + 1 + 1, 1, none⟩ (.string a1))) := kw.setCell (by simp only []; omega) _
                 clear ka1 ot1 kr kh kw)
              | (go_at_call 107; (with_reducible refine (rtext_at (w.heap.size + 1) w.heap.size c 157 100 (some ⟨b, o, none⟩) 157 100 rfl rfl xs E1 a2 E2 H2.out _ Q1.out (HA.out.below S1.out) HX.out (by omega) hc hc2 (by omega) (by omega)).mono ?_); rintro e v2 ⟨rfl, ka2, ot2⟩
                 have kr := (P1.out).oth ot2 (by omega)
                 have kh := (R1.out).oth ot2 (by omega)
                 have kw : Below w.heap.size w v2 := (S1.out).trans (ot2.below (by omega) (S1.out).size)
                 have kc : v2.cell? ⟨w.heap.size + 1 + 1, 8, none⟩ = some (.string ⟨#[]⟩) := kh.cell rfl
                 have kf := kh.free 8
                 have P2 : Hid (BX (v2.setCell ⟨w.heap.size + 1 + 1, 8, none⟩ (.string a2)) w.heap.size 64 #[.string ⟨#[]⟩, .string ⟨#[]⟩, .int .i64 0, .int .i64 0, .int .i64 0, .int .i64 0, .int .i64 0, .int .u8 0, .string ⟨#[]⟩]) := kr.other (by omega) _
                 have Q2 : Hid (BX (v2.setCell ⟨w.heap.size + 1 + 1, 8, none⟩ (.string a2)) (w.heap.size + 1) 146 #[.slice (some ⟨b, o, none⟩) 512 c, .int .i64 E2]) := ka2.other (by omega) _
                 have R2 : Hid (BX (v2.setCell ⟨w.heap.size + 1 + 1, 8, none⟩ (.string a2)) (w.heap.size + 1 + 1) 64 #[.string a0, .string a1, .int .i64 0, .int .i64 0, .int .i64 0, .int .i64 0, .int .i64 0, .int .u8 0, .string a2]) := kh.set 8 _
                 have S2 : Hid (Below w.heap.size w (v2.setCell ⟨w.heap.size + 1 + 1, 8, none⟩ (.string a2))) := kw.setCell (by simp only []; omega) _
                 clear ka2 ot2 kr kh kw)
              | (go_at_call 108; (with_reducible refine (rnum_at (w.heap.size + 1) w.heap.size c 100 8 (some ⟨b, o, none⟩) 100 8 rfl rfl xs E2 a3 E3 H3.out _ Q2.out (HA.out.below S2.out) HX.out (by omega) hc hc2 (by omega) (by omega)).mono ?_); rintro e v3 ⟨rfl, ka3, ot3⟩
                 have kr := (P2.out).oth ot3 (by omega)
                 have kh := (R2.out).oth ot3 (by omega)
                 have kw : Below w.heap.size w v3 := (S2.out).trans (ot3.below (by omega) (S2.out).size)
                 have kc : v3.cell? ⟨w.heap.size + 1 + 1, 2, none⟩ = some (.int .i64 0) := kh.cell rfl
                 have kf := kh.free 2
                 have P3 : Hid (BX (v3.setCell ⟨w.heap.size + 1 + 1, 2, none⟩ (.int .i64 a3)) w.heap.size 64 #[.string ⟨#[]⟩, .string ⟨#[]⟩, .int .i64 0, .int .i64 0, .int .i64 0, .int .i64 0, .int .i64 0, .int .u8 0, .string ⟨#[]⟩]) := kr.other (by omega) _
                 have Q3 : Hid (BX (v3.setCell ⟨w.heap.size + 1 + 1, 2, none⟩ (.int .i64 a3)) (w.heap.size + 1) 146 #[.slice (some ⟨b, o, none⟩) 512 c, .int .i64 E3]) := ka3.other (by omega) _
                 have R3 : Hid (BX (v3.setCell ⟨w.heap.size + 1 + 1, 2, none⟩ (.int .i64 a3)) (w.heap.size + 1 + 1) 64 #[.string a0, .string a1, .int .i64 a3, .int .i64 0, .int .i64 0, .int .i64 0, .int .i64 0, .int .u8 0, .string a2]) := kh.set 2 _
                 have S3 : Hid (Below w.heap.size w (v3.setCell ⟨w.heap.size + 1 + 1, 2, none⟩ (.int .i64 a3))) := kw.setCell (by simp only []; omega) _
                 clear ka3 ot3 kr kh kw)
              | (go_at_call 108; (with_reducible refine (rnum_at (w.heap.size + 1) w.heap.size c 108 8 (some ⟨b, o, none⟩) 108 8 rfl rfl xs E3 a4 E4 H4.out _ Q3.out (HA.out.below S3.out) HX.out (by omega) hc hc2 (by omega) (by omega)).mono ?_); rintro e v4 ⟨rfl, ka4, ot4⟩
                 have kr := (P3.out).oth ot4 (by omega)
                 have kh := (R3.out).oth ot4 (by omega)
                 have kw : Below w.heap.size w v4 := (S3.out).trans (ot4.below (by omega) (S3.out).size)
                 have kc : v4.cell? ⟨w.heap.size + 1 + 1, 3, none⟩ = some (.int .i64 0) := kh.cell rfl
                 have kf := kh.free 3
                 have P4 : Hid (BX (v4.setCell ⟨w.heap.size + 1 + 1, 3, none⟩ (.int .i64 a4)) w.heap.size 64 #[.string ⟨#[]⟩, .string ⟨#[]⟩, .int .i64 0, .int .i64 0, .int .i64 0, .int .i64 0, .int .i64 0, .int .u8 0, .string ⟨#[]⟩]) := kr.other (by omega) _
                 have Q4 : Hid (BX (v4.setCell ⟨w.heap.size + 1 + 1, 3, none⟩ (.int .i64 a4)) (w.heap.size + 1) 146 #[.slice (some ⟨b, o, none⟩) 512 c, .int .i64 E4]) := ka4.other (by omega) _
                 have R4 : Hid (BX (v4.setCell ⟨w.heap.size + 1 + 1, 3, none⟩ (.int .i64 a4)) (w.heap.size + 1 + 1) 64 #[.string a0, .string a1, .int .i64 a3, .int .i64 a4, .int .i64 0, .int .i64 0, .int .i64 0, .int .u8 0, .string a2]) := kh.set 3 _
                 have S4 : Hid (Below w.heap.size w (v4.setCell ⟨w.heap.size + 1 + 1, 3, none⟩ (.int .i64 a4))) := kw.setCell (by simp only []; omega) _
                 clear ka4 ot4 kr kh kw)
              | (go_at_call 108; (with_reducible refine (rnum_at (w.heap.size + 1) w.heap.size c 116 8 (some ⟨b, o, none⟩) 116 8 rfl rfl xs E4 a5 E5 H5.out _ Q4.out (HA.out.below S4.out) HX.out (by omega) hc hc2 (by omega) (by omega)).mono ?_); rintro e v5 ⟨rfl, ka5, ot5⟩
                 have kr := (P4.out).oth ot5 (by omega)
                 have kh := (R4.out).oth ot5 (by omega)
                 have kw : Below w.heap.size w v5 := (S4.out).trans (ot5.below (by omega) (S4.out).size)
                 have kc : v5.cell? ⟨w.heap.size + 1 + 1, 4, none⟩ = some (.int .i64 0) := kh.cell rfl
                 have kf := kh.free 4
                 have P5 : Hid (BX (v5.setCell ⟨w.heap.size + 1 + 1, 4, none⟩ (.int .i64 a5)) w.heap.size 64 #[.string ⟨#[]⟩, .string ⟨#[]⟩, .int .i64 0, .int .i64 0, .int .i64 0, .int .i64 0, .int .i64 0, .int .u8 0, .string ⟨#[]⟩]) := kr.other (by omega) _
                 have Q5 : Hid (BX (v5.setCell ⟨w.heap.size + 1 + 1, 4, none⟩ (.int .i64 a5)) (w.heap.size + 1) 146 #[.slice (some ⟨b, o, none⟩) 512 c, .int .i64 E5]) := ka5.other (by omega) _
                 have R5 : Hid (BX (v5.setCell ⟨w.heap.size + 1 + 1, 4, none⟩ (.int .i64 a5)) (w.heap.size + 1 + 1) 64 #[.string a0, .string a1, .int .i64 a3, .int .i64 a4, .int .i64 a5, .int .i64 0, .int .i64 0, .int .u8 0, .string a2]) := kh.set 4 _
                 have S5 : Hid (Below w.heap.size w (v5.setCell ⟨w.heap.size + 1 + 1, 4, none⟩ (.int .i64 a5))) := kw.setCell (by simp only []; omega) _
                 clear ka5 ot5 kr kh kw)
              | (go_at_call 108; (with_reducible refine (rnum_at (w.heap.size + 1) w.heap.size c 124 12 (some ⟨b, o, none⟩) 124 12 rfl rfl xs E5 a6 E6 H6.out _ Q5.out (HA.out.below S5.out) HX.out (by omega) hc hc2 (by omega) (by omega)).mono ?_); rintro e v6 ⟨rfl, ka6, ot6⟩
                 have kr := (P5.out).oth ot6 (by omega)
                 have kh := (R5.out).oth ot6 (by omega)
                 have kw : Below w.heap.size w v6 := (S5.out).trans (ot6.below (by omega) (S5.out).size)
                 have kc : v6.cell? ⟨w.heap.size + 1 + 1, 6, none⟩ = some (.int .i64 0) := kh.cell rfl
                 have kf := kh.free 6
                 have P6 : Hid (BX (v6.setCell ⟨w.heap.size + 1 + 1, 6, none⟩ (.int .i64 a6)) w.heap.size 64 #[.string ⟨#[]⟩, .string ⟨#[]⟩, .int .i64 0, .int .i64 0, .int .i64 0, .int .i64 0, .int .i64 0, .int .u8 0, .string ⟨#[]⟩]) := kr.other (by omega) _
                 have Q6 : Hid (BX (v6.setCell ⟨w.heap.size + 1 + 1, 6, none⟩ (.int .i64 a6)) (w.heap.size + 1) 146 #[.slice (some ⟨b, o, none⟩) 512 c, .int .i64 E6]) := ka6.other (by omega) _
                 have R6 : Hid (BX (v6.setCell ⟨w.heap.size + 1 + 1, 6, none⟩ (.int .i64 a6)) (w.heap.size + 1 + 1) 64 #[.string a0, .string a1, .int .i64 a3, .int .i64 a4, .int .i64 a5, .int .i64 0, .int .i64 a6, .int .u8 0, .string a2]) := kh.set 6 _
                 have S6 : Hid (Below w.heap.size w (v6.setCell ⟨w.heap.size + 1 + 1, 6, none⟩ (.int .i64 a6))) := kw.setCell (by simp only []; omega) _
                 clear ka6 ot6 kr kh kw)
              | (go_at_call 108; (with_reducible refine (rnum_at (w.heap.size + 1) w.heap.size c 136 12 (some ⟨b, o, none⟩) 136 12 rfl rfl xs E6 a7 0 H7.out _ Q6.out (HA.out.below S6.out) HX.out (by omega) hc hc2 (by omega) (by omega)).mono ?_); rintro e v7 ⟨rfl, ka7, ot7⟩
                 have kr := (P6.out).oth ot7 (by omega)
                 have kh := (R6.out).oth ot7 (by omega)
                 have kw : Below w.heap.size w v7 := (S6.out).trans (ot7.below (by omega) (S6.out).size)
                 have kc : v7.cell? ⟨w.heap.size + 1 + 1, 5, none⟩ = some (.int .i64 0) := kh.cell rfl
                 have kf := kh.free 5
                 have P7 : Hid (BX (v7.setCell ⟨w.heap.size + 1 + 1, 5, none⟩ (.int .i64 a7)) w.heap.size 64 #[.string ⟨#[]⟩, .string ⟨#[]⟩, .int .i64 0, .int .i64 0, .int .i64 0, .int .i64 0, .int .i64 0, .int .u8 0, .string ⟨#[]⟩]) := kr.other (by omega) _
                 have Q7 : Hid (BX (v7.setCell ⟨w.heap.size + 1 + 1, 5, none⟩ (.int .i64 a7)) (w.heap.size + 1) 146 #[.slice (some ⟨b, o, none⟩) 512 c, .int .i64 0]) := ka7.other (by omega) _
                 have R7 : Hid (BX (v7.setCell ⟨w.heap.size + 1 + 1, 5, none⟩ (.int .i64 a7)) (w.heap.size + 1 + 1) 64 #[.string a0, .string a1, .int .i64 a3, .int .i64 a4, .int .i64 a5, .int .i64 a7, .int .i64 a6, .int .u8 0, .string a2]) := kh.set 5 _
                 have S7 : Hid (Below w.heap.size w (v7.setCell ⟨w.heap.size + 1 + 1, 5, none⟩ (.int .i64 a7))) := kw.setCell (by simp only []; omega) _
                 have kb1 := ATB.out _ S7.out
                 clear ka7 ot7 kr kh kw)
              | (go_at_call 109; (with_reducible refine (RDT.out _).mono ?_); rintro e w1 ⟨rfl, rfl⟩
                 have kc : (v7.setCell ⟨w.heap.size + 1 + 1, 5, none⟩ (.int .i64 a7)).cell? ⟨w.heap.size + 1 + 1, 7, none⟩ = some (.int .u8 0) := R7.out.cell rfl
                 have kf := R7.out.free 7
                 have P8 : Hid (BX ((v7.setCell ⟨w.heap.size + 1 + 1, 5, none⟩ (.int .i64 a7)).setCell ⟨w.heap.size + 1 + 1, 7, none⟩ (.int .u8 K)) w.heap.size 64 #[.string ⟨#[]⟩, .string ⟨#[]⟩, .int .i64 0, .int .i64 0, .int .i64 0, .int .i64 0, .int .i64 0, .int .u8 0, .string ⟨#[]⟩]) := P7.out.other (by omega) _
                 have Q8 : Hid (BX ((v7.setCell ⟨w.heap.size + 1 + 1, 5, none⟩ (.int .i64 a7)).setCell ⟨w.heap.size + 1 + 1, 7, none⟩ (.int .u8 K)) (w.heap.size + 1) 146 #[.slice (some ⟨b, o, none⟩) 512 c, .int .i64 0]) := Q7.out.other (by omega) _
                 have R8 : Hid (BX ((v7.setCell ⟨w.heap.size + 1 + 1, 5, none⟩ (.int .i64 a7)).setCell ⟨w.heap.size + 1 + 1, 7, none⟩ (.int .u8 K)) (w.heap.size + 1 + 1) 64 #[.string a0, .string a1, .int .i64 a3, .int .i64 a4, .int .i64 a5, .int .i64 a7, .int .i64 a6, .int .u8 K, .string a2]) := R7.out.set 7 _
                 have S8 : Hid (Below w.heap.size w ((v7.setCell ⟨w.heap.size + 1 + 1, 5, none⟩ (.int .i64 a7)).setCell ⟨w.heap.size + 1 + 1, 7, none⟩ (.int .u8 K))) := S7.out.setCell (by simp only []; omega) _
                 have qe : ((v7.setCell ⟨w.heap.size + 1 + 1, 5, none⟩ (.int .i64 a7)).setCell ⟨w.heap.size + 1 + 1, 7, none⟩ (.int .u8 K)).cell? ⟨w.heap.size + 1, 1, none⟩ = some (.int .i64 0) := Q8.out.cell rfl
                 have qh0 : ((v7.setCell ⟨w.heap.size + 1 + 1, 5, none⟩ (.int .i64 a7)).setCell ⟨w.heap.size + 1 + 1, 7, none⟩ (.int .u8 K)).cell? ⟨w.heap.size + 1 + 1, 0, none⟩ = some (.string a0) := R8.out.cell rfl
                 have qr0 : ((v7.setCell ⟨w.heap.size + 1 + 1, 5, none⟩ (.int .i64 a7)).setCell ⟨w.heap.size + 1 + 1, 7, none⟩ (.int .u8 K)).cell? ⟨w.heap.size, 0, none⟩ = some (.string ⟨#[]⟩) := P8.out.cell rfl
                 have qf0 : ((v7.setCell ⟨w.heap.size + 1 + 1, 5, none⟩ (.int .i64 a7)).setCell ⟨w.heap.size + 1 + 1, 7, none⟩ (.int .u8 K)).frozen? ⟨w.heap.size, 0, none⟩ = false := P8.out.free 0
                 have qh1 : ((v7.setCell ⟨w.heap.size + 1 + 1, 5, none⟩ (.int .i64 a7)).setCell ⟨w.heap.size + 1 + 1, 7, none⟩ (.int .u8 K)).cell? ⟨w.heap.size + 1 + 1, 1, none⟩ = some (.string a1) := R8.out.cell rfl
                 have qr1 : ((v7.setCell ⟨w.heap.size + 1 + 1, 5, none⟩ (.int .i64 a7)).setCell ⟨w.heap.size + 1 + 1, 7, none⟩ (.int .u8 K)).cell? ⟨w.heap.size, 1, none⟩ = some (.string ⟨#[]⟩) := P8.out.cell rfl
                 have qf1 : ((v7.setCell ⟨w.heap.size + 1 + 1, 5, none⟩ (.int .i64 a7)).setCell ⟨w.heap.size + 1 + 1, 7, none⟩ (.int .u8 K)).frozen? ⟨w.heap.size, 1, none⟩ = false := P8.out.free 1
                 have qh2 : ((v7.setCell ⟨w.heap.size + 1 + 1, 5, none⟩ (.int .i64 a7)).setCell ⟨w.heap.size + 1 + 1, 7, none⟩ (.int .u8 K)).cell? ⟨w.heap.size + 1 + 1, 2, none⟩ = some (.int .i64 a3) := R8.out.cell rfl
                 have qr2 : ((v7.setCell ⟨w.heap.size + 1 + 1, 5, none⟩ (.int .i64 a7)).setCell ⟨w.heap.size + 1 + 1, 7, none⟩ (.int .u8 K)).cell? ⟨w.heap.size, 2, none⟩ = some (.int .i64 0) := P8.out.cell rfl
                 have qf2 : ((v7.setCell ⟨w.heap.size + 1 + 1, 5, none⟩ (.int .i64 a7)).setCell ⟨w.heap.size + 1 + 1, 7, none⟩ (.int .u8 K)).frozen? ⟨w.heap.size, 2, none⟩ = false := P8.out.free 2
                 have qh3 : ((v7.setCell ⟨w.heap.size + 1 + 1, 5, none⟩ (.int .i64 a7)).setCell ⟨w.heap.size + 1 + 1, 7, none⟩ (.int .u8 K)).cell? ⟨w.heap.size + 1 + 1, 3, none⟩ = some (.int .i64 a4) := R8.out.cell rfl
                 have qr3 : ((v7.setCell ⟨w.heap.size + 1 + 1, 5, none⟩ (.int .i64 a7)).setCell ⟨w.heap.size + 1 + 1, 7, none⟩ (.int .u8 K)).cell? ⟨w.heap.size, 3, none⟩ = some (.int .i64 0) := P8.out.cell rfl
                 have qf3 : ((v7.setCell ⟨w.heap.size + 1 + 1, 5, none⟩ (.int .i64 a7)).setCell ⟨w.heap.size + 1 + 1, 7, none⟩ (.int .u8 K)).frozen? ⟨w.heap.size, 3, none⟩ = false := P8.out.free 3
                 have qh4 : ((v7.setCell ⟨w.heap.size + 1 + 1, 5, none⟩ (.int .i64 a7)).setCell ⟨w.heap.size + 1 + 1, 7, none⟩ (.int .u8 K)).cell? ⟨w.heap.size + 1 + 1, 4, none⟩ = some (.int .i64 a5) := R8.out.cell rfl
                 have qr4 : ((v7.setCell ⟨w.heap.size + 1 + 1, 5, none⟩ (.int .i64 a7)).setCell ⟨w.heap.size + 1 + 1, 7, none⟩ (.int .u8 K)).cell? ⟨w.heap.size, 4, none⟩ = some (.int .i64 0) := P8.out.cell rfl
                 have qf4 : ((v7.setCell ⟨w.heap.size + 1 + 1, 5, none⟩ (.int .i64 a7)).setCell ⟨w.heap.size + 1 + 1, 7, none⟩ (.int .u8 K)).frozen? ⟨w.heap.size, 4, none⟩ = false := P8.out.free 4
                 have qh5 : ((v7.setCell ⟨w.heap.size + 1 + 1, 5, none⟩ (.int .i64 a7)).setCell ⟨w.heap.size + 1 + 1, 7, none⟩ (.int .u8 K)).cell? ⟨w.heap.size + 1 + 1, 5, none⟩ = some (.int .i64 a7) := R8.out.cell rfl
                 have qr5 : ((v7.setCell ⟨w.heap.size + 1 + 1, 5, none⟩ (.int .i64 a7)).setCell ⟨w.heap.size + 1 + 1, 7, none⟩ (.int .u8 K)).cell? ⟨w.heap.size, 5, none⟩ = some (.int .i64 0) := P8.out.cell rfl
                 have qf5 : ((v7.setCell ⟨w.heap.size + 1 + 1, 5, none⟩ (.int .i64 a7)).setCell ⟨w.heap.size + 1 + 1, 7, none⟩ (.int .u8 K)).frozen? ⟨w.heap.size, 5, none⟩ = false := P8.out.free 5
                 have qh6 : ((v7.setCell ⟨w.heap.size + 1 + 1, 5, none⟩ (.int .i64 a7)).setCell ⟨w.heap.size + 1 + 1, 7, none⟩ (.int .u8 K)).cell? ⟨w.heap.size + 1 + 1, 6, none⟩ = some (.int .i64 a6) := R8.out.cell rfl
                 have qr6 : ((v7.setCell ⟨w.heap.size + 1 + 1, 5, none⟩ (.int .i64 a7)).setCell ⟨w.heap.size + 1 + 1, 7, none⟩ (.int .u8 K)).cell? ⟨w.heap.size, 6, none⟩ = some (.int .i64 0) := P8.out.cell rfl
                 have qf6 : ((v7.setCell ⟨w.heap.size + 1 + 1, 5, none⟩ (.int .i64 a7)).setCell ⟨w.heap.size + 1 + 1, 7, none⟩ (.int .u8 K)).frozen? ⟨w.heap.size, 6, none⟩ = false := P8.out.free 6
                 have qh7 : ((v7.setCell ⟨w.heap.size + 1 + 1, 5, none⟩ (.int .i64 a7)).setCell ⟨w.heap.size + 1 + 1, 7, none⟩ (.int .u8 K)).cell? ⟨w.heap.size + 1 + 1, 7, none⟩ = some (.int .u8 K) := R8.out.cell rfl
                 have qr7 : ((v7.setCell ⟨w.heap.size + 1 + 1, 5, none⟩ (.int .i64 a7)).setCell ⟨w.heap.size + 1 + 1, 7, none⟩ (.int .u8 K)).cell? ⟨w.heap.size, 7, none⟩ = some (.int .u8 0) := P8.out.cell rfl
                 have qf7 : ((v7.setCell ⟨w.heap.size + 1 + 1, 5, none⟩ (.int .i64 a7)).setCell ⟨w.heap.size + 1 + 1, 7, none⟩ (.int .u8 K)).frozen? ⟨w.heap.size, 7, none⟩ = false := P8.out.free 7
                 have qh8 : ((v7.setCell ⟨w.heap.size + 1 + 1, 5, none⟩ (.int .i64 a7)).setCell ⟨w.heap.size + 1 + 1, 7, none⟩ (.int .u8 K)).cell? ⟨w.heap.size + 1 + 1, 8, none⟩ = some (.string a2) := R8.out.cell rfl
                 have qr8 : ((v7.setCell ⟨w.heap.size + 1 + 1, 5, none⟩ (.int .i64 a7)).setCell ⟨w.heap.size + 1 + 1, 7, none⟩ (.int .u8 K)).cell? ⟨w.heap.size, 8, none⟩ = some (.string ⟨#[]⟩) := P8.out.cell rfl
                 have qf8 : ((v7.setCell ⟨w.heap.size + 1 + 1, 5, none⟩ (.int .i64 a7)).setCell ⟨w.heap.size + 1 + 1, 7, none⟩ (.int .u8 K)).frozen? ⟨w.heap.size, 8, none⟩ = false := P8.out.free 8)
              | (go_at_call 110; (with_reducible refine (IST.out _).mono ?_); rintro e w1 ⟨rfl, rfl⟩)
              | (go_at_call 111; (with_reducible refine (BEL.out _).mono ?_); rintro e u1 ⟨rfl, bu⟩
                 have T8 := P8.out.later bu
                 have TR := R8.out.later bu
                 have TB : Hid (Below w.heap.size w u1) := S8.out.trans (bu.mono S8.out.size)
                 have uh0 : u1.cell? ⟨w.heap.size + 1 + 1, 0, none⟩ = some (.string a0) := TR.cell rfl
                 have ur0 : u1.cell? ⟨w.heap.size, 0, none⟩ = some (.string ⟨#[]⟩) := T8.cell rfl
                 have uf0 : u1.frozen? ⟨w.heap.size, 0, none⟩ = false := T8.free 0
                 have uh1 : u1.cell? ⟨w.heap.size + 1 + 1, 1, none⟩ = some (.string a1) := TR.cell rfl
                 have ur1 : u1.cell? ⟨w.heap.size, 1, none⟩ = some (.string ⟨#[]⟩) := T8.cell rfl
                 have uf1 : u1.frozen? ⟨w.heap.size, 1, none⟩ = false := T8.free 1
                 have uh2 : u1.cell? ⟨w.heap.size + 1 + 1, 2, none⟩ = some (.int .i64 a3) := TR.cell rfl
                 have ur2 : u1.cell? ⟨w.heap.size, 2, none⟩ = some (.int .i64 0) := T8.cell rfl
                 have uf2 : u1.frozen? ⟨w.heap.size, 2, none⟩ = false := T8.free 2
                 have uh3 : u1.cell? ⟨w.heap.size + 1 + 1, 3, none⟩ = some (.int .i64 a4) := TR.cell rfl
                 have ur3 : u1.cell? ⟨w.heap.size, 3, none⟩ = some (.int .i64 0) := T8.cell rfl
                 have uf3 : u1.frozen? ⟨w.heap.size, 3, none⟩ = false := T8.free 3
                 have uh4 : u1.cell? ⟨w.heap.size + 1 + 1, 4, none⟩ = some (.int .i64 a5) := TR.cell rfl
                 have ur4 : u1.cell? ⟨w.heap.size, 4, none⟩ = some (.int .i64 0) := T8.cell rfl
                 have uf4 : u1.frozen? ⟨w.heap.size, 4, none⟩ = false := T8.free 4
                 have uh5 : u1.cell? ⟨w.heap.size + 1 + 1, 5, none⟩ = some (.int .i64 a7) := TR.cell rfl
                 have ur5 : u1.cell? ⟨w.heap.size, 5, none⟩ = some (.int .i64 0) := T8.cell rfl
                 have uf5 : u1.frozen? ⟨w.heap.size, 5, none⟩ = false := T8.free 5
                 have uh6 : u1.cell? ⟨w.heap.size + 1 + 1, 6, none⟩ = some (.int .i64 a6) := TR.cell rfl
                 have ur6 : u1.cell? ⟨w.heap.size, 6, none⟩ = some (.int .i64 0) := T8.cell rfl
                 have uf6 : u1.frozen? ⟨w.heap.size, 6, none⟩ = false := T8.free 6
                 have uh7 : u1.cell? ⟨w.heap.size + 1 + 1, 7, none⟩ = some (.int .u8 K) := TR.cell rfl
                 have ur7 : u1.cell? ⟨w.heap.size, 7, none⟩ = some (.int .u8 0) := T8.cell rfl
                 have uf7 : u1.frozen? ⟨w.heap.size, 7, none⟩ = false := T8.free 7
                 have uh8 : u1.cell? ⟨w.heap.size + 1 + 1, 8, none⟩ = some (.string a2) := TR.cell rfl
                 have ur8 : u1.cell? ⟨w.heap.size, 8, none⟩ = some (.string ⟨#[]⟩) := T8.cell rfl
                 have uf8 : u1.frozen? ⟨w.heap.size, 8, none⟩ = false := T8.free 8
                 clear T8 TR))
            refine bodyPost_ret (v := .tuple #[.agg #[.string ⟨#[]⟩, .string ⟨#[]⟩, .int .i64 0, .int .i64 0, .int .i64 0, .int .i64 0, .int .i64 0, .int .u8 0, .string ⟨#[]⟩], .int .i64 10]) (by simp [results, Tryz.f74, go_sem, *]) rfl ⟨rfl, ?_⟩
            exact (((((((((TB.out).setCell (Nat.le_refl _) _).setCell (Nat.le_refl _) _).setCell (Nat.le_refl _) _).setCell (Nat.le_refl _) _).setCell (Nat.le_refl _) _).setCell (Nat.le_refl _) _).setCell (Nat.le_refl _) _).setCell (Nat.le_refl _) _).setCell (Nat.le_refl _) _
      · have hE2 : (E7 != 0) = true := by simp [hE]
        have pe := PEQ.out
        rw [if_neg hE] at pe
        rw [PV0.out (by rw [pe]; exact hE), pe]
        clear hE PEQ PVQ PV0 pe
        go_enter Tryz.func74, Tryz.ntmps74
        go_wp2_with (first
          | (go_at_call 106; (with_reducible refine (CHK.out _ ((Below.refl _ _).alloc (Nat.le_refl _) _)).mono ?_); rintro e w1 ⟨rfl, rfl⟩)
          | (go_at_call 107; (with_reducible refine (rtext_at (w.heap.size + 1) w.heap.size c 345 155 (some ⟨b, o, none⟩) 345 155 rfl rfl xs 0 a0 E0 H0.out _ X1.out (HA.out.below X3.out) HX.out (by omega) hc hc2 (by omega) (by omega)).mono ?_); rintro e v0 ⟨rfl, ka0, ot0⟩
             have kr := (X0.out).oth ot0 (by omega)
             have kh := (X2.out).oth ot0 (by omega)
             have kw : Below w.heap.size w v0 := (X3.out).trans (ot0.below (by omega) (X3.out).size)
             have kc : v0.cell? ⟨w.heap.size + 1 + 1, 0, none⟩ = some (.string ⟨#[]⟩) := kh.cell rfl
             have kf := kh.free 0
             have P0 : Hid (BX (v0.setCell ⟨w.heap.size + 1 + 1, 0, none⟩ (.string a0)) w.heap.size 64 #[.string ⟨#[]⟩, .string ⟨#[]⟩, .int .i64 0, .int .i64 0, .int .i64 0, .int .i64 0, .int .i64 0, .int .u8 0, .string ⟨#[]⟩]) := kr.other (by omega) _
             have Q0 : Hid (BX (v0.setCell ⟨w.heap.size + 1 + 1, 0, none⟩ (.string a0)) (w.heap.size + 1) 146 #[.slice (some ⟨b, o, none⟩) 512 c, .int .i64 E0]) := ka0.other (by omega) _
             have R0 : Hid (BX (v0.setCell ⟨w.heap.size + 1 + 1, 0, none⟩ (.string a0)) (w.heap.size + 1 + 1) 64 #[.string a0, .string ⟨#[]⟩, .int .i64 0, .int .i64 0, .int .i64 0, .int .i64 0, .int .i64 0, .int .u8 0, .string ⟨#[]⟩]) := kh.set 0 _
             have S0 : Hid (Below w.heap.size w (v0.setCell ⟨w.heap.size + 1 + 1, 0, none⟩ (.string a0))) := kw.setCell (by simp only []; omega) _
             clear ka0 ot0 kr kh kw)
          | (go_at_call 107; (with_reducible refine (rtext_at (w.heap.size + 1) w.heap.size c 0 100 (some ⟨b, o, none⟩) 0 100 rfl rfl xs E0 a1 E1 H1.out _ Q0.out (HA.out.below S0.out) HX.out (by omega) hc hc2 (by omega) (by omega)).mono ?_); rintro e v1 ⟨rfl, ka1, ot1⟩
             have kr := (P0.out).oth ot1 (by omega)
             have kh := (R0.out).oth ot1 (by omega)
             have kw : Below w.heap.size w v1 := (S0.out).trans (ot1.below (by omega) (S0.out).size)
             have kc : v1.cell? ⟨w.heap.size + 1 + 1, 1, none⟩ = some (.string ⟨#[]⟩) := kh.cell rfl
             have kf := kh.free 1
             have P1 : Hid (BX (v1.setCell ⟨w.heap.size + 1 + 1, 1, none⟩ (.string a1)) w.heap.size 64 #[.string ⟨#[]⟩, .string ⟨#[]⟩, .int .i64 0, .int .i64 0, .int .i64 0, .int .i64 0, .int .i64 0, .int .u8 0, .string ⟨#[]⟩]) := kr.other (by omega) _
             have Q1 : Hid (BX (v1.setCell ⟨w.heap.size + 1 + 1, 1, none⟩ (.string a1)) (w.heap.size + 1) 146 #[.slice (some ⟨b, o, none⟩) 512 c, .int .i64 E1]) := ka1.other (by omega) _
             have R1 : Hid (BX (v1.setCell ⟨w.heap.size + 1 + 1, 1, none⟩ (.string a1)) (w.heap.size + 1 + 1) 64 #[.string a0, .string a1, .int .i64 0, .int .i64 0, .int .i64 0, .int .i64 0, .int .i64 0, .int .u8 0, .string ⟨#[]⟩]) := kh.set 1 _
             have S1 : Hid (Below w.heap.size w (v1.setCell ⟨w.heap.size + 1 + 1, 1, none⟩ (.string a1))) := kw.setCell (by simp only []; omega) _
             clear ka1 ot1 kr kh kw)
          | (go_at_call 107; (with_reducible refine (rtext_at (w.heap.size + 1) w.heap.size c 157 100 (some ⟨b, o, none⟩) 157 100 rfl rfl xs E1 a2 E2 H2.out _ Q1.out (HA.out.below S1.out) HX.out (by omega) hc hc2 (by omega) (by omega)).mono ?_); rintro e v2 ⟨rfl, ka2, ot2⟩
             have kr := (P1.out).oth ot2 (by omega)
             have kh := (R1.out).oth ot2 (by omega)
             have kw : Below w.heap.size w v2 := (S1.out).trans (ot2.below (by omega) (S1.out).size)
             have kc : v2.cell? ⟨w.heap.size + 1 + 1, 8, none⟩ = some (.string ⟨#[]⟩) := kh.cell rfl
             have kf := kh.free 8
             have P2 : Hid (BX (v2.setCell ⟨w.heap.size + 1 + 1, 8, none⟩ (.string a2)) w.heap.size 64 #[.string ⟨#[]⟩, .string ⟨#[]⟩, .int .i64 0, .int .i64 0, .int .i64 0, .int .i64 0, .int .i64 0, .int .u8 0, .string ⟨#[]⟩]) := kr.other (by omega) _
             have Q2 : Hid (BX (v2.setCell ⟨w.heap.size + 1 + 1, 8, none⟩ (.string a2)) (w.heap.size + 1) 146 #[.slice (some ⟨b, o, none⟩) 512 c, .int .i64 E2]) := ka2.other (by omega) _
             have R2 : Hid (BX (v2.setCell ⟨w.heap.size + 1 + 1, 8, none⟩ (.string a2)) (w.heap.size + 1 + 1) 64 #[.string a0, .string a1, .int .i64 0, .int .i64 0, .int .i64 0, .int .i64 0, .int .i64 0, .int .u8 0, .string a2]) := kh.set 8 _
             have S2 : Hid (Below w.heap.size w (v2.setCell ⟨w.heap.size + 1 + 1, 8, none⟩ (.string a2))) := kw.setCell (by simp only []; omega) _
             clear ka2 ot2 kr kh kw)
          | (go_at_call 108; (with_reducible refine (rnum_at (w.heap.size + 1) w.heap.size c 100 8 (some ⟨b, o, none⟩) 100 8 rfl rfl xs E2 a3 E3 H3.out _ Q2.out (HA.out.below S2.out) HX.out (by omega) hc hc2 (by omega) (by omega)).mono ?_); rintro e v3 ⟨rfl, ka3, ot3⟩
             have kr := (P2.out).oth ot3 (by omega)
             have kh := (R2.out).oth ot3 (by omega)
             have kw : Below w.heap.size w v3 := (S2.out).trans (ot3.below (by omega) (S2.out).size)
             have kc : v3.cell? ⟨w.heap.size + 1 + 1, 2, none⟩ = some (.int .i64 0) := kh.cell rfl
             have kf := kh.free 2
             have P3 : Hid (BX (v3.setCell ⟨w.heap.size + 1 + 1, 2, none⟩ (.int .i64 a3)) w.heap.size 64 #[.string ⟨#[]⟩, .string ⟨#[]⟩, .int .i64 0, .int .i64 0, .int .i64 0, .int .i64 0, .int .i64 0, .int .u8 0, .string ⟨#[]⟩]) := kr.other (by omega) _
             have Q3 : Hid (BX (v3.setCell ⟨w.heap.size + 1 + 1, 2, none⟩ (.int .i64 a3)) (w.heap.size + 1) 146 #[.slice (some ⟨b, o, none⟩) 512 c, .int .i64 E3]) := ka3.other (by omega) _
             have R3 : Hid (BX (v3.setCell ⟨w.heap.size + 1 + 1, 2, none⟩ (.int .i64 a3)) (w.heap.size + 1 + 1) 64 #[.string a0, .string a1, .int .i64 a3, .int .i64 0, .int .i64 0, .int .i64 0, .int .i64 0, .int .u8 0, .string a2]) := kh.set 2 _
             have S3 : Hid (Below w.heap.size w (v3.setCell ⟨w.heap.size + 1 + 1, 2, none⟩ (.int .i64 a3))) := kw.setCell (by simp only []; omega) _
             clear ka3 ot3 kr kh kw)
          | (go_at_call 108; (with_reducible refine (rnum_at (w.heap.size + 1) w.heap.size c 108 8 (some ⟨b, o, none⟩) 108 8 rfl rfl xs E3 a4 E4 H4.out _ Q3.out (HA.out.below S3.out) HX.out (by omega) hc hc2 (by omega) (by omega)).mono ?_); rintro e v4 ⟨rfl, ka4, ot4⟩
             have kr := (P3.out).oth ot4 (by omega)
             have kh := (R3.out).oth ot4 (by omega)
             have kw : Below w.heap.size w v4 := (S3.out).trans (ot4.below (by omega) (S3.out).size)
             have kc : v4.cell? ⟨w.heap.size + 1 + 1, 3, none⟩ = some (.int .i64 0) := kh.cell rfl
             have kf := kh.free 3
             have P4 : Hid (BX (v4.setCell ⟨w.heap.size + 1 + 1, 3, none⟩ (.int .i64 a4)) w.heap.size 64 #[.string ⟨#[]⟩, .string ⟨#[]⟩, .int .i64 0, .int .i64 0, .int .i64 0, .int .i64 0, .int .i64 0, .int .u8 0, .string ⟨#[]⟩]) := kr.other (by omega) _
             have Q4 : Hid (BX (v4.setCell ⟨w.heap.size + 1 + 1, 3, none⟩ (.int .i64 a4)) (w.heap.size + 1) 146 #[.slice (some ⟨b, o, none⟩) 512 c, .int .i64 E4]) := ka4.other (by omega) _
             have R4 : Hid (BX (v4.setCell ⟨w.heap.size + 1 + 1, 3, none⟩ (.int .i64 a4)) (w.heap.size + 1 + 1) 64 #[.string a0, .string a1, .int .i64 a3, .int .i64 a4, .int .i64 0, .int .i64 0, .int .i64 0, .int .u8 0, .string a2]) := kh.set 3 _
             have S4 : Hid (Below w.heap.size w (v4.setCell ⟨w.heap.size + 1 + 1, 3, none⟩ (.int .i64 a4))) := kw.setCell (by simp only []; omega) _
             clear ka4 ot4 kr kh kw)
          | (go_at_call 108; (with_reducible refine (rnum_at (w.heap.size + 1) w.heap.size c 116 8 (some ⟨b, o, none⟩) 116 8 rfl rfl xs E4 a5 E5 H5.out _ Q4.out (HA.out.below S4.out) HX.out (by omega) hc hc2 (by omega) (by omega)).mono ?_); rintro e v5 ⟨rfl, ka5, ot5⟩
             have kr := (P4.out).oth ot5 (by omega)
             have kh := (R4.out).oth ot5 (by omega)
             have kw : Below w.heap.size w v5 := (S4.out).trans (ot5.below (by omega) (S4.out).size)
             have kc : v5.cell? ⟨w.heap.size + 1 + 1, 4, none⟩ = some (.int .i64 0) := kh.cell rfl
             have kf := kh.free 4
             have P5 : Hid (BX (v5.setCell ⟨w.heap.size + 1 + 1, 4, none⟩ (.int .i64 a5)) w.heap.size 64 #[.string ⟨#[]⟩, .string ⟨#[]⟩, .int .i64 0, .int .i64 0, .int .i64 0, .int .i64 0, .int .i64 0, .int .u8 0, .string ⟨#[]⟩]) := kr.other (by omega) _
             have Q5 : Hid (BX (v5.setCell ⟨w.heap.size + 1 + 1, 4, none⟩ (.int .i64 a5)) (w.heap.size + 1) 146 #[.slice (some ⟨b, o, none⟩) 512 c, .int .i64 E5]) := ka5.other (by omega) _
             have R5 : Hid (BX (v5.setCell ⟨w.heap.size + 1 + 1, 4, none⟩ (.int .i64 a5)) (w.heap.size + 1 + 1) 64 #[.string a0, .string a1, .int .i64 a3, .int .i64 a4, .int .i64 a5, .int .i64 0, .int .i64 0, .int .u8 0, .string a2]) := kh.set 4 _
             have S5 : Hid (Below w.heap.size w (v5.setCell ⟨w.heap.size + 1 + 1, 4, none⟩ (.int .i64 a5))) := kw.setCell (by simp only []; omega) _
             clear ka5 ot5 kr kh kw)
          | (go_at_call 108; (with_reducible refine (rnum_at (w.heap.size + 1) w.heap.size c 124 12 (some ⟨b, o, none⟩) 124 12 rfl rfl xs E5 a6 E6 H6.out _ Q5.out (HA.out.below S5.out) HX.out (by omega) hc hc2 (by omega) (by omega)).mono ?_); rintro e v6 ⟨rfl, ka6, ot6⟩
             have kr := (P5.out).oth ot6 (by omega)
             have kh := (R5.out).oth ot6 (by omega)
             have kw : Below w.heap.size w v6 := (S5.out).trans (ot6.below (by omega) (S5.out).size)
             have kc : v6.cell? ⟨w.heap.size + 1 + 1, 6, none⟩ = some (.int .i64 0) := kh.cell rfl
             have kf := kh.free 6
             have P6 : Hid (BX (v6.setCell ⟨w.heap.size + 1 + 1, 6, none⟩ (.int .i64 a6)) w.heap.size 64 #[.string ⟨#[]⟩, .string ⟨#[]⟩, .int .i64 0, .int .i64 0, .int .i64 0, .int .i64 0, .int .i64 0, .int .u8 0, .string ⟨#[]⟩]) := kr.other (by omega) _
             have Q6 : Hid (BX (v6.setCell ⟨w.heap.size + 1 + 1, 6, none⟩ (.int .i64 a6)) (w.heap.size + 1) 146 #[.slice (some ⟨b, o, none⟩) 512 c, .int .i64 E6]) := ka6.other (by omega) _
             have R6 : Hid (BX (v6.setCell ⟨w.heap.size + 1 + 1, 6, none⟩ (.int .i64 a6)) (w.heap.size + 1 + 1) 64 #[.string a0, .string a1, .int .i64 a3, .int .i64 a4, .int .i64 a5, .int .i64 0, .int .i64 a6, .int .u8 0, .string a2]) := kh.set 6 _
             have S6 : Hid (Below w.heap.size w (v6.setCell ⟨w.heap.size + 1 + 1, 6, none⟩ (.int .i64 a6))) := kw.setCell (by simp only []; omega) _
             clear ka6 ot6 kr kh kw)
          | (go_at_call 108; (with_reducible refine (rnum_at (w.heap.size + 1) w.heap.size c 136 12 (some ⟨b, o, none⟩) 136 12 rfl rfl xs E6 a7 E7 H7.out _ Q6.out (HA.out.below S6.out) HX.out (by omega) hc hc2 (by omega) (by omega)).mono ?_); rintro e v7 ⟨rfl, ka7, ot7⟩
             have kr := (P6.out).oth ot7 (by omega)
             have kh := (R6.out).oth ot7 (by omega)
             have kw : Below w.heap.size w v7 := (S6.out).trans (ot7.below (by omega) (S6.out).size)
             have kc : v7.cell? ⟨w.heap.size + 1 + 1, 5, none⟩ = some (.int .i64 0) := kh.cell rfl
             have kf := kh.free 5
             have P7 : Hid (BX (v7.setCell ⟨w.heap.size + 1 + 1, 5, none⟩ (.int .i64 a7)) w.heap.size 64 #[.string ⟨#[]⟩, .string ⟨#[]⟩, .int .i64 0, .int .i64 0, .int .i64 0, .int .i64 0, .int .i64 0, .int .u8 0, .string ⟨#[]⟩]) := kr.other (by omega) _
             have Q7 : Hid (BX (v7.setCell ⟨w.heap.size + 1 + 1, 5, none⟩ (.int .i64 a7)) (w.heap.size + 1) 146 #[.slice (some ⟨b, o, none⟩) 512 c, .int .i64 E7]) := ka7.other (by omega) _
             have R7 : Hid (BX (v7.setCell ⟨w.heap.size + 1 + 1, 5, none⟩ (.int .i64 a7)) (w.heap.size + 1 + 1) 64 #[.string a0, .string a1, .int .i64 a3, .int .i64 a4, .int .i64 a5, .int .i64 a7, .int .i64 a6, .int .u8 0, .string a2]) := kh.set 5 _
             have S7 : Hid (Below w.heap.size w (v7.setCell ⟨w.heap.size + 1 + 1, 5, none⟩ (.int .i64 a7))) := kw.setCell (by simp only []; omega) _
             have kb1 := ATB.out _ S7.out
             clear ka7 ot7 kr kh kw)
          | (go_at_call 109; (with_reducible refine (RDT.out _).mono ?_); rintro e w1 ⟨rfl, rfl⟩
             have kc : (v7.setCell ⟨w.heap.size + 1 + 1, 5, none⟩ (.int .i64 a7)).cell? ⟨w.heap.size + 1 + 1, 7, none⟩ = some (.int .u8 0) := R7.out.cell rfl
             have kf := R7.out.free 7
             have P8 : Hid (BX ((v7.setCell ⟨w.heap.size + 1 + 1, 5, none⟩ (.int .i64 a7)).setCell ⟨w.heap.size + 1 + 1, 7, none⟩ (.int .u8 K)) w.heap.size 64 #[.string ⟨#[]⟩, .string ⟨#[]⟩, .int .i64 0, .int .i64 0, .int .i64 0, .int .i64 0, .int .i64 0, .int .u8 0, .string ⟨#[]⟩]) := P7.out.other (by omega) _
             have Q8 : Hid (BX ((v7.setCell ⟨w.heap.size + 1 + 1, 5, none⟩ (.int .i64 a7)).setCell ⟨w.heap.size + 1 + 1, 7, none⟩ (.int .u8 K)) (w.heap.size + 1) 146 #[.slice (some ⟨b, o, none⟩) 512 c, .int .i64 E7]) := Q7.out.other (by omega) _
             have R8 : Hid (BX ((v7.setCell ⟨w.heap.size + 1 + 1, 5, none⟩ (.int .i64 a7)).setCell ⟨w.heap.size + 1 + 1, 7, none⟩ (.int .u8 K)) (w.heap.size + 1 + 1) 64 #[.string a0, .string a1, .int .i64 a3, .int .i64 a4, .int .i64 a5, .int .i64 a7, .int .i64 a6, .int .u8 K, .string a2]) := R7.out.set 7 _
             have S8 : Hid (Below w.heap.size w ((v7.setCell ⟨w.heap.size + 1 + 1, 5, none⟩ (.int .i64 a7)).setCell ⟨w.heap.size + 1 + 1, 7, none⟩ (.int .u8 K))) := S7.out.setCell (by simp only []; omega) _
             have qe : ((v7.setCell ⟨w.heap.size + 1 + 1, 5, none⟩ (.int .i64 a7)).setCell ⟨w.heap.size + 1 + 1, 7, none⟩ (.int .u8 K)).cell? ⟨w.heap.size + 1, 1, none⟩ = some (.int .i64 E7) := Q8.out.cell rfl
             have qh0 : ((v7.setCell ⟨w.heap.size + 1 + 1, 5, none⟩ (.int .i64 a7)).setCell ⟨w.heap.size + 1 + 1, 7, none⟩ (.int .u8 K)).cell? ⟨w.heap.size + 1 + 1, 0, none⟩ = some (.string a0) := R8.out.cell rfl
             have qr0 : ((v7.setCell ⟨w.heap.size + 1 + 1, 5, none⟩ (.int .i64 a7)).setCell ⟨w.heap.size + 1 + 1, 7, none⟩ (.int .u8 K)).cell? ⟨w.heap.size, 0, none⟩ = some (.string ⟨#[]⟩) := P8.out.cell rfl
             have qf0 : ((v7.setCell ⟨w.heap.size + 1 + 1, 5, none⟩ (.int .i64 a7)).setCell ⟨w.heap.size + 1 + 1, 7, none⟩ (.int .u8 K)).frozen? ⟨w.heap.size, 0, none⟩ = false := P8.out.free 0
             have qh1 : ((v7.setCell ⟨w.heap.size + 1 + 1, 5, none⟩ (.int .i64 a7)).setCell ⟨w.heap.size + 1 + 1, 7, none⟩ (.int .u8 K)).cell? ⟨w.heap.size + 1 + 1, 1, none⟩ = some (.string a1) := R8.out.cell rfl
             have qr1 : ((v7.setCell ⟨w.heap.size + 1 + 1, 5, none⟩ (.int .i64 a7)).setCell ⟨w.heap.size + 1 + 1, 7, none⟩ (.int .u8 K)).cell? ⟨w.heap.size, 1, none⟩ = some (.string ⟨#[]⟩) := P8.out.cell rfl
             have qf1 : ((v7.setCell ⟨w.heap.size + 1 + 1, 5, none⟩ (.int .i64 a7)).setCell ⟨w.heap.size + 1 + 1, 7, none⟩ (.int .u8 K)).frozen? ⟨w.heap.size, 1, none⟩ = false := P8.out.free 1
             have qh2 : ((v7.setCell ⟨w.heap.size + 1 + 1, 5, none⟩ (.int .i64 a7)).setCell ⟨w.heap.size + 1 + 1, 7, none⟩ (.int .u8 K)).cell? ⟨w.heap.size + 1 + 1, 2, none⟩ = some (.int .i64 a3) := R8.out.cell rfl
             have qr2 : ((v7.setCell ⟨w.heap.size + 1 + 1, 5, none⟩ (.int .i64 a7)).setCell ⟨w.heap.size + 1 + 1, 7, none⟩ (.int .u8 K)).cell? ⟨w.heap.size, 2, none⟩ = some (.int .i64 0) := P8.out.cell rfl
             have qf2 : ((v7.setCell ⟨w.heap.size + 1 + 1, 5, none⟩ (.int .i64 a7)).setCell ⟨w.heap.size + 1 + 1, 7, none⟩ (.int .u8 K)).frozen? ⟨w.heap.size, 2, none⟩ = false := P8.out.free 2
             have qh3 : ((v7.setCell ⟨w.heap.size + 1 + 1, 5, none⟩ (.int .i64 a7)).setCell ⟨w.heap.size + 1 + 1, 7, none⟩ (.int .u8 K)).cell? ⟨w.heap.size + 1 + 1, 3, none⟩ = some (.int .i64 a4) := R8.out.cell rfl
             have qr3 : ((v7.setCell ⟨w.heap.size + 1 + 1, 5, none⟩ (.int .i64 a7)).setCell ⟨w.heap.size + 1 + 1, 7, none⟩ (.int .u8 K)).cell? ⟨w.heap.size, 3, none⟩ = some (.int .i64 0) := P8.out.cell rfl
             have qf3 : ((v7.setCell ⟨w.heap.size + 1 + 1, 5, none⟩ (.int .i64 a7)).setCell ⟨w.heap.size + 1 + 1, 7, none⟩ (.int .u8 K)).frozen? ⟨w.heap.size, 3, none⟩ = false := P8.out.free 3
             have qh4 : ((v7.setCell ⟨w.heap.size + 1 + 1, 5, none⟩ (.int .i64 a7)).setCell ⟨w.heap.size + 1 + 1, 7, none⟩ (.int .u8 K)).cell? ⟨w.heap.size + 1 + 1, 4, none⟩ = some (.int .i64 a5) := R8.out.cell rfl
             have qr4 : ((v7.setCell ⟨w.heap.size + 1 + 1, 5, none⟩ (.int .i64 a7)).setCell ⟨w.heap.size + 1 + 1, 7, none⟩ (.int .u8 K)).cell? ⟨w.heap.size, 4, none⟩ = some (.int .i64 0) := P8.out.cell rfl
             have qf4 : ((v7.setCell ⟨w.heap.size + 1 + 1, 5, none⟩ (.int .i64 a7)).setCell ⟨w.heap.size + 1 + 1, 7, none⟩ (.int .u8 K)).frozen? ⟨w.heap.size, 4, none⟩ = false := P8.out.free 4
             have qh5 : ((v7.setCell ⟨w.heap.size + 1 + 1, 5, none⟩ (.int .i64 a7)).setCell ⟨w.heap.size + 1 + 1, 7, none⟩ (.int .u8 K)).cell? ⟨w.heap.size + 1 + 1, 5, none⟩ = some (.int .i64 a7) := R8.out.cell rfl
             have qr5 : ((v7.setCell ⟨w.heap.size + 1 + 1, 5, none⟩ (.int .i64 a7)).setCell ⟨w.heap.size + 1 + 1, 7, none⟩ (.int .u8 K)).cell? ⟨w.heap.size, 5, none⟩ = some (.int .i64 0) := P8.out.cell rfl
             have qf5 : ((v7.setCell ⟨w.heap.size + 1 + 1, 5, none⟩ (.int .i64 a7)).setCell ⟨w.heap.size + 1 + 1, 7, none⟩ (.int .u8 K)).frozen? ⟨w.heap.size, 5, none⟩ = false := P8.out.free 5
             have qh6 : ((v7.setCell ⟨w.heap.size + 1 + 1, 5, none⟩ (.int .i64 a7)).setCell ⟨w.heap.size + 1 + 1, 7, none⟩ (.int .u8 K)).cell? ⟨w.heap.size + 1 + 1, 6, none⟩ = some (.int .i64 a6) := R8.out.cell rfl
             have qr6 : ((v7.setCell ⟨w.heap.size + 1 + 1, 5, none⟩ (.int .i64 a7)).setCell ⟨w.heap.size + 1 + 1, 7, none⟩ (.int .u8 K)).cell? ⟨w.heap.size, 6, none⟩ = some (.int .i64 0) := P8.out.cell rfl
             have qf6 : ((v7.setCell ⟨w.heap.size + 1 + 1, 5, none⟩ (.int .i64 a7)).setCell ⟨w.heap.size + 1 + 1, 7, none⟩ (.int .u8 K)).frozen? ⟨w.heap.size, 6, none⟩ = false := P8.out.free 6
             have qh7 : ((v7.setCell ⟨w.heap.size + 1 + 1, 5, none⟩ (.int .i64 a7)).setCell ⟨w.heap.size + 1 + 1, 7, none⟩ (.int .u8 K)).cell? ⟨w.heap.size + 1 + 1, 7, none⟩ = some (.int .u8 K) := R8.out.cell rfl
             have qr7 : ((v7.setCell ⟨w.heap.size + 1 + 1, 5, none⟩ (.int .i64 a7)).setCell ⟨w.heap.size + 1 + 1, 7, none⟩ (.int .u8 K)).cell? ⟨w.heap.size, 7, none⟩ = some (.int .u8 0) := P8.out.cell rfl
             have qf7 : ((v7.setCell ⟨w.heap.size + 1 + 1, 5, none⟩ (.int .i64 a7)).setCell ⟨w.heap.size + 1 + 1, 7, none⟩ (.int .u8 K)).frozen? ⟨w.heap.size, 7, none⟩ = false := P8.out.free 7
             have qh8 : ((v7.setCell ⟨w.heap.size + 1 + 1, 5, none⟩ (.int .i64 a7)).setCell ⟨w.heap.size + 1 + 1, 7, none⟩ (.int .u8 K)).cell? ⟨w.heap.size + 1 + 1, 8, none⟩ = some (.string a2) := R8.out.cell rfl
             have qr8 : ((v7.setCell ⟨w.heap.size + 1 + 1, 5, none⟩ (.int .i64 a7)).setCell ⟨w.heap.size + 1 + 1, 7, none⟩ (.int .u8 K)).cell? ⟨w.heap.size, 8, none⟩ = some (.string ⟨#[]⟩) := P8.out.cell rfl
             have qf8 : ((v7.setCell ⟨w.heap.size + 1 + 1, 5, none⟩ (.int .i64 a7)).setCell ⟨w.heap.size + 1 + 1, 7, none⟩ (.int .u8 K)).frozen? ⟨w.heap.size, 8, none⟩ = false := P8.out.free 8))
        go_region
        go_wp2
        refine bodyPost_ret (v := .tuple #[.agg #[.string ⟨#[]⟩, .string ⟨#[]⟩, .int .i64 0, .int .i64 0, .int .i64 0, .int .i64 0, .int .i64 0, .int .u8 0, .string ⟨#[]⟩], .int .i64 E7]) (by simp [results, Tryz.f74, go_sem, *]) rfl ⟨rfl, ?_⟩
        exact ((((((((((S8.out).setCell (Nat.le_refl _) _).setCell (Nat.le_refl _) _).setCell (Nat.le_refl _) _).setCell (Nat.le_refl _) _).setCell (Nat.le_refl _) _).setCell (Nat.le_refl _) _).setCell (Nat.le_refl _) _).setCell (Nat.le_refl _) _).setCell (Nat.le_refl _) _).drew
    · have e : Hh.parE xs = 3 := by unfold Hh.parE; rw [if_pos hck, if_neg hm]
      have e2 : Hh.parV xs = Hh.hdr ⟨#[]⟩ ⟨#[]⟩ ⟨#[]⟩ 0 0 0 0 0 0 := by unfold Hh.parV; rw [e, if_neg (by decide)]
      rw [e, e2]
      unfold Hh.hdr
      have conv0 := conv _ ((Below.refl _ w).alloc (Nat.le_refl _) (.cells #[.string ⟨#[]⟩, .string ⟨#[]⟩, .int .i64 0, .int .i64 0, .int .i64 0, .int .i64 0, .int .i64 0, .int .u8 0, .string ⟨#[]⟩] 64))
      have hq := str_magic (Hh.sub xs 257 8) (Hh.byt_sub hx _ _) hm
      rw [show ((xs.drop 257).take 8) = Hh.sub xs 257 8 from rfl] at conv0
      generalize strOfNums (Hh.sub xs 257 8) = S at *
      clear conv hck hm e e2 ha hx
      go_enter Tryz.func74, Tryz.ntmps74
      go_wp2_with (go_at_call 106; (with_reducible refine (CHK.out _ ((Below.refl _ _).alloc (Nat.le_refl _) _)).mono ?_); rintro e w1 ⟨rfl, rfl⟩)
      refine bodyPost_ret (v := .tuple #[.agg #[.string ⟨#[]⟩, .string ⟨#[]⟩, .int .i64 0, .int .i64 0, .int .i64 0, .int .i64 0, .int .i64 0, .int .u8 0, .string ⟨#[]⟩], .int .i64 3]) (by simp [results, Tryz.f74, go_sem]) rfl ⟨rfl, ?_⟩
      exact (Below.refl _ _).alloc (Nat.le_refl _) _
  · have e : Hh.parE xs = Hs.checkS xs := by unfold Hh.parE; rw [if_neg hck]
    have e2 : Hh.parV xs = Hh.hdr ⟨#[]⟩ ⟨#[]⟩ ⟨#[]⟩ 0 0 0 0 0 0 := by unfold Hh.parV; rw [e, if_neg hck]
    rw [e, e2]
    unfold Hh.hdr
    generalize Hs.checkS xs = E at *
    have hE : (E != 0) = true := by simp [hck]
    have CHK := Lib.hid chk; clear chk hck e e2
    go_enter Tryz.func74, Tryz.ntmps74
    go_wp2_with (go_at_call 106; (with_reducible refine (CHK.out _ ((Below.refl _ _).alloc (Nat.le_refl _) _)).mono ?_); rintro e w1 ⟨rfl, rfl⟩)
    refine bodyPost_ret (v := .tuple #[.agg #[.string ⟨#[]⟩, .string ⟨#[]⟩, .int .i64 0, .int .i64 0, .int .i64 0, .int .i64 0, .int .i64 0, .int .u8 0, .string ⟨#[]⟩], .int .i64 E]) (by simp [results, Tryz.f74, go_sem]) rfl ⟨rfl, ?_⟩
    exact (Below.refl _ _).alloc (Nat.le_refl _) _
end Go.Proofs.YtjofdgjcbjdhbaaGreatDoor
