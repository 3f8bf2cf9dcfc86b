/- WALKS OF LAYER 14, TWELFTH PART: theirs, alive. -/
import Derived.Test.YthgbncpiehcghaaGreatDoorGt2
import Derived.Test.YthgbncpiehcghaaGreatDoorG13v
namespace Go.Proofs.YthgbncpiehcghaaGreatDoor
set_option linter.unusedVariables false
open Go Go.RowKit Go.Maps
set_option maxRecDepth 100000
set_option maxHeartbeats 8000000
open Nt (Tr Nd WF Ps Path at_ cnt used Dd Dk ap)
theorem DkR.low {w0 : Bs} {w : World} {db K : Nat} {M : Dk} (h : DkR w0 w db M K) : Below w0.heap.size w0 w := let ⟨_, _, _, _, _, _, _, _, h, _⟩ := h; h.low
theorem theirs14_any (y : Dd) (w : World) : Calls Tryz.prog 32 #[.agg (DdC y)] w fun e w' => e = .returned (.agg (DdC y)) ∧ Below w.heap.size w w' := by
  have hb := below_new w (.cells (DdC y) 60)
  have hbx := BX.new w 60 (DdC y)
  obtain ⟨kd, p, q, a, b, c, d, A, n, k, xs⟩ := y
  have HB := Lib.hid hb
  go_enter Tryz.func32, Tryz.ntmps32
  go_wp2
  refine bodyPost_ret (v := .agg #[.int .i64 kd, .string p, .string q, .int .i64 a, .int .i64 b, .int .i64 c, .int .i64 d, .slice A n k]) (by simp [results, Tryz.f32, go_sem]) rfl ?_
  exact ⟨rfl, bthen HB.out (below_new _ _)⟩
abbrev sb : ByteArray := ⟨#[98]⟩
abbrev yA : Dd := ⟨1, sa, ⟨#[]⟩, 0, 0, 0, 0, none, 0, 0, []⟩
abbrev yB (A : Option Addr) (k : Nat) : Dd := ⟨2, sb, ⟨#[]⟩, 0, 0, 0, 0, A, 2, k, [104, 105]⟩
abbrev yC : Dd := ⟨10, ⟨#[]⟩, ⟨#[]⟩, 0, 0, 0, 0, none, 0, 0, []⟩
def E0 : Dk := Nt.dnew 9 99
def E1 : Dk := (E0.dok yA).1
def E2 : Dk := (E1.dok (yB none 0)).1
def E3 : Dk := (E2.dok yC).1
def E4 : Dk := E3.crash 1 1
theorem el1 : (E0.dok yA).2 = 0 := by kernel_rfl
theorem el2 : (E1.dok (yB none 0)).2 = 0 := by kernel_rfl
theorem el3 : (E2.dok yC).2 = 1 := by kernel_rfl
theorem el4 : E3.L.length = 2 := by kernel_rfl
theorem el5 : E4.L = [] := by kernel_rfl
theorem el6 : E4.V.find sb = (2, 0) := by kernel_rfl
theorem el7 : E4.D.find sa = (1, 0) := by kernel_rfl
theorem el8 : (E4.V.nd 2).xs = [104] := by kernel_rfl
theorem el9 : (E4.D.nd 1).xs = [] := by kernel_rfl
theorem eo0 : E0.ok 1 := Nt.dnew_ok 9 99 (by decide) (by decide)
theorem eo1 : E1.ok 302 := eo0.dok rfl rfl
theorem eo2 : E2.ok 603 := eo1.dok rfl rfl
theorem eo3 : E3.ok 904 := eo2.dok rfl rfl
theorem eo4 : E4.ok 904 := eo3.crash 1 1
theorem ef1 : E0.fu = -1 ∧ E1.fu = -1 ∧ E2.fu = -1 ∧ E3.fu = -1 := ⟨rfl, by kernel_rfl, by kernel_rfl, by kernel_rfl⟩
theorem en1 : E0.L.length = 0 ∧ E1.L.length = 1 ∧ E2.L.length = 2 := ⟨rfl, by kernel_rfl, by kernel_rfl⟩
theorem get14 {w0 w : World} {tb K k n : Nat} {T : Tr} {xs : List Int} (h : At w0 w tb T K) (hK : K ≤ 100000) (p : ByteArray) (hp : p.size ≤ 1000000) (hf : T.find p = (k, 0)) (hx : (T.nd k).xs = xs) (hn : xs.length = n) (hcs : Lib.strCells (strOfNums xs) = xs.map (Value.int .u8)) :
    Calls Tryz.prog 41 #[.pointer (some ⟨tb, 0, none⟩), .string p] w fun e w' => ∃ v0 v1 v2 v3 v4 v5 A c v8, e = .returned (.tuple #[.agg #[.int .i64 v0, .int .i64 v1, .int .i64 v2, .int .i64 v3, .int .i64 v4, .string v5, .slice A n c, .int .i64 v8], .int .i64 0]) ∧ RB w' w'.heap.size A n xs ∧ n ≤ c ∧ c ≤ maxLen ∧ Below w.heap.size w w' := by
  refine (at_get h hK p hp).mono ?_
  rintro e w' ⟨vd, rfl, ho, hb⟩
  have ho2 := ho (by rw [hf])
  rw [hf] at ho2
  simp only [hx] at ho2
  rw [hcs] at ho2
  have ho3 : OB w' w.heap.size 5 vd xs := ho2
  obtain ⟨A, c, rfl, hr, h1, h2⟩ := ho3.rb
  subst hn
  unfold infoV
  rw [hf, if_pos rfl]
  exact ⟨_, _, _, _, _, _, A, c, _, rfl, hr, h1, h2, hb⟩
theorem conv_h {A : Option Addr} {c B : Nat} {w : World} (hr : RB w B A 1 [104]) : (convert 36 9 (.slice A 1 c)).run Tryz.prog w = .ok (.string ⟨#[104]⟩) w := by
  have := hr.conv c
  rw [show strOfNums [104] = ⟨#[104]⟩ from by decide +kernel] at this
  exact this
theorem alive14_any (w : World) : Calls Tryz.prog 21 #[] w fun e w' => e = .returned (.bool true) ∧ Below w.heap.size w w' := by
  have kn := Lib.hid (show Calls Tryz.prog 19 #[.int .i64 9, .int .i64 99] w fun e w' => ∃ db, e = .returned (.pointer (some ⟨db, 0, none⟩)) ∧ DkR (Bs.of w) w' db E0 1 from dknew w 9 99)
  have k1 := Lib.hid (fun W db (h : DkR (Bs.of w) W db E0 1) => do14_any h eo0 (by decide) (by rw [ef1.1]; decide) (by rw [en1.1]; decide) yA RB.nil ⟨by decide, by decide, by decide⟩)
  have k2 := Lib.hid (fun W db A k (h : DkR (Bs.of w) W db E1 302) (hd : RB W W.heap.size A 2 [104, 105]) => do14_any h eo1 (by decide) (by rw [ef1.2.1]; decide) (by rw [en1.2.1]; decide) (yB A k) hd ⟨by show sb.size ≤ 1000; decide, by show (⟨#[]⟩ : ByteArray).size ≤ 1000; decide, by show 2 ≤ 5000; decide⟩)
  have k3 := Lib.hid (fun W db (h : DkR (Bs.of w) W db E2 603) => do14_any h eo2 (by decide) (by rw [ef1.2.2.1]; decide) (by rw [en1.2.2]; decide) yC RB.nil ⟨by decide, by decide, by decide⟩)
  have kw := Lib.hid (fun W db (h : DkR (Bs.of w) W db E3 904) => dkwaits h (by rw [el4]; decide))
  have kc := Lib.hid (fun W db (h : DkR (Bs.of w) W db E3 904) => crash14_any h eo3 (by rw [el4]; decide) 1 1)
  have kv := Lib.hid (fun W db (h : DkR (Bs.of w) W db E4 1506) => dkview h (eo4.le (by decide)) (by decide))
  have kd := Lib.hid (fun W db (h : DkR (Bs.of w) W db E4 1506) => dkdurable h (eo4.le (by decide)) (by decide))
  have kg := Lib.hid (fun W0 W tb (h : At W0 W tb E4.V 1506) => get14 h (by decide) sb (by decide) el6 el8 rfl (by kernel_rfl))
  have kh := Lib.hid (fun W0 W tb (h : At W0 W tb E4.D 1506) => get14 h (by decide) sa (by decide) el7 el9 rfl rfl)
  have kx := Lib.hid (fun W db (h : DkR (Bs.of w) W db E4 1506) => dkwaits h (by rw [el5]; decide))
  have e1 : yA.er = yA := rfl
  have e2 : ∀ A k, (yB A k).er = yB none 0 := fun _ _ => rfl
  have e3 : yC.er = yC := rfl
  rw [e1, el1] at k1
  simp only [e2, el2] at k2
  rw [e3, el3] at k3
  rw [el4] at kw kc
  rw [el5] at kx
  have cv := conv_hi
  go_enter Tryz.func21, Tryz.ntmps21
  go_wp2_with (first
    | (go_at_call 24; (with_reducible refine (kx.out _ _ h10.out).mono ?_); rintro e w11 ⟨A11, n11, c11, rfl, ls11, H11⟩; obtain rfl := H11.out.2.2.2.2.1)
    | (go_at_call 41; (with_reducible refine (kh.out _ _ _ ha9).mono ?_); rintro e w10 ⟨u0, u1, u2, u3, u4, u5, A9, c9, u8, rfl, _, _, _, hb10⟩; have hbb := bthen (bthen hb9 hb10) (below_new w10 (.cells #[.int .i64 u0, .int .i64 u1, .int .i64 u2, .int .i64 u3, .int .i64 u4, .string u5, .slice A9 0 c9, .int .i64 u8] 92)); have h10 := Lib.hid (h8.out.later hbb); have hbx := Lib.hid (HBX.out.later hbb); have d6 : (w10.alloc (.cells #[.int .i64 u0, .int .i64 u1, .int .i64 u2, .int .i64 u3, .int .i64 u4, .string u5, .slice A9 0 c9, .int .i64 u8] 92)).cell? ⟨w7.heap.size, 6, none⟩ = some (.slice A7 1 c7) := hbx.out.cell rfl; have cd := conv_h (c := c7) (HR7.out.below hbb))
    | (go_at_call 28; (with_reducible refine (kd.out _ _ h8.out).mono ?_); rintro e w9 ⟨tb9, rfl, ha9, hb9⟩)
    | (go_at_call 41; (with_reducible refine (kg.out _ _ _ ha6).mono ?_); rintro e w7 ⟨v0, v1, v2, v3, v4, v5, A7, c7, v8, rfl, hr7, _, _, hb7⟩; have hb7' := below_new w7 (.cells #[.int .i64 v0, .int .i64 v1, .int .i64 v2, .int .i64 v3, .int .i64 v4, .string v5, .slice A7 1 c7, .int .i64 v8] 92); have h8 := Lib.hid (h5.out.later (bthen (bthen hb6 hb7) hb7')); have HR7 := Lib.hid ((hr7.below hb7').more hb7'.size); have HBX := Lib.hid (BX.new w7 92 #[.int .i64 v0, .int .i64 v1, .int .i64 v2, .int .i64 v3, .int .i64 v4, .string v5, .slice A7 1 c7, .int .i64 v8]); clear hr7)
    | (go_at_call 26; (with_reducible refine (kv.out _ _ h5.out).mono ?_); rintro e w6 ⟨tb6, rfl, ha6, hb6⟩)
    | (go_at_call 71; (with_reducible refine (kc.out _ _ h4.out).mono ?_); rintro e w5 ⟨rfl, H5⟩; have h5 := Lib.hid (show DkR (Bs.of w) w5 _ E4 1506 from H5.out.1))
    | (go_at_call 24; (with_reducible refine (kw.out _ _ h3.out).mono ?_); rintro e w4 ⟨A4, n4, c4, rfl, ls4, H4⟩; obtain rfl := H4.out.2.2.2.2.1; have h4 := Lib.hid (h3.out.later H4.out.2.2.2.2.2))
    | (go_at_call 70; (with_reducible refine (k3.out _ _ h2.out).mono ?_); rintro e w3 ⟨rfl, H3⟩; have h3 := Lib.hid (show DkR (Bs.of w) w3 _ E3 904 from H3.out.1))
    | (go_at_call 70; (with_reducible refine (k2.out _ _ _ _ (h1.out.later (below_new w1 _)) (rb_hi w1)).mono ?_); rintro e w2 ⟨rfl, H2⟩; have h2 := Lib.hid (show DkR (Bs.of w) w2 _ E2 603 from H2.out.1))
    | (go_at_call 70; (with_reducible refine (k1.out _ _ h0.out).mono ?_); rintro e w1 ⟨rfl, H1⟩; have h1 := Lib.hid (show DkR (Bs.of w) w1 _ E1 302 from H1.out.1))
    | (go_at_call 19; (with_reducible refine kn.out.mono ?_); rintro e w0 ⟨db, rfl, h0⟩; replace h0 := Lib.hid h0))
  go_ret
  exact ⟨rfl, bthen h10.out.low H11.out.2.2.2.2.2⟩
end Go.Proofs.YthgbncpiehcghaaGreatDoor
