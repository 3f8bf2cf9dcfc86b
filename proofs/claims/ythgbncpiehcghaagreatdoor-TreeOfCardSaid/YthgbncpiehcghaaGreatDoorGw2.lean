/- WALKS OF LAYER 15, THIRTEENTH PART: the law's alive. -/
import Derived.Test.YthgbncpiehcghaaGreatDoorGd1
import Derived.Test.YthgbncpiehcghaaGreatDoorGu1
import Derived.Lib.SlBytesConst
namespace Go.Proofs.YthgbncpiehcghaaGreatDoor
set_option linter.unusedVariables false
open Go Go.RowKit Go.Maps
set_option maxRecDepth 100000
set_option maxHeartbeats 8000000
open Nt (Tr Nd WF Ps Path at_ cnt used txt Mm)
abbrev ta15 : ByteArray := ⟨#[97]⟩
abbrev tc15 : ByteArray := ⟨#[99]⟩
abbrev tb15 : ByteArray := ⟨#[98]⟩
abbrev tab15 : ByteArray := ⟨#[97, 47, 98]⟩
def dir15 : Nd := ⟨4, 0, 0, 0, 0, ⟨#[]⟩, none, 0, 0, []⟩
def file15 (A : Option Addr) : Nd := ⟨1, 0, 0, 0, 0, ⟨#[]⟩, A, 1, 1, [120]⟩
def U1 : Tr := (Nt.new 9 99).mk1 ta15 dir15
def U2 (A : Option Addr) : Tr := U1.mk1 tab15 (file15 A)
def U3 (A : Option Addr) : Tr := (U2 A).lnk1 tc15 2
theorem tl1 : (Nt.new 9 99).mk' ta15 dir15 = (U1, 0) := by kernel_rfl
theorem tl2 (A : Option Addr) : U1.mk' tab15 (file15 A) = (U2 A, 0) := by kernel_rfl
theorem tl3 (A : Option Addr) : (U2 A).lnk tc15 tab15 = (U3 A, 0) := by kernel_rfl
theorem tl4 (A : Option Addr) : Nt.ofE (U3 A) ⟨#[]⟩ = 0 ∧ Nt.ofE (U3 A) ta15 = 0 := ⟨by kernel_rfl, by kernel_rfl⟩
theorem tl5 (A : Option Addr) : Nt.ofL (U3 A) ⟨#[]⟩ = [(ta15, dir15), (tab15, file15 A), (tc15, { file15 A with kind := 2, link := tab15, A := none, n := 0, c := 0, xs := [] })] := by kernel_rfl
theorem tl6 (A : Option Addr) : Nt.ofL (U3 A) ta15 = [(tb15, file15 A)] := by kernel_rfl
theorem tl7 (A : Option Addr) : eqv (U3 A) ⟨#[]⟩ (U3 A) ⟨#[]⟩ = true := by
  unfold eqv
  rw [(tl4 A).1, if_neg (by simp), if_neg (by simp), tl5]
  simp [dif, sm]
theorem tl8 (A : Option Addr) : (U3 A).nodes = [Nd.zero, dir15, file15 A] ∨ True := .inr trivial
theorem tl9 (A : Option Addr) : Nt.Mok (U3 A) := by
  intro x hx
  have h : (U3 A).nodes = [⟨4, 0, 0, 0, 0, ⟨#[]⟩, none, 0, 0, []⟩, dir15, file15 A] := by kernel_rfl
  rw [h] at hx
  simp at hx
  rcases hx with rfl | rfl | rfl <;> exact (by decide : Nt.metaOk 0 0 0 0 = true)
theorem tl10 (A : Option Addr) : Nt.Bok (U3 A) := by
  intro x hx
  have h : (U3 A).nodes = [⟨4, 0, 0, 0, 0, ⟨#[]⟩, none, 0, 0, []⟩, dir15, file15 A] := by kernel_rfl
  rw [h] at hx
  simp at hx
  rcases hx with rfl | rfl | rfl
  · exact Byt.nil
  · exact Byt.nil
  · intro j
    rcases j with _ | j <;> simp [file15]
theorem at_of {w0 w : World} {tb K : Nat} {T : Tr} (h : At w0 w tb T K) (hK : K ≤ 90000) (hT : Nt.Mok T) (hX : Nt.Bok T) (p : ByteArray) (hp : p.size ≤ 100000) :
    Calls Tryz.prog 36 #[.pointer (some ⟨tb, 0, none⟩), .string p] w fun e w' => ∃ A c L, e = .returned (.tuple #[.slice A L.length c, .int .i64 (Nt.ofE T p)]) ∧ L.map erm = (Nt.ofL T p).map erm ∧ MRow w' A L.length L ∧ L.length ≤ c ∧ c ≤ maxLen ∧ Below w.heap.size w w' := by
  obtain ⟨F, ad, mb, hF, hR⟩ := h.rep
  exact of_any h.wf hK hT hX hR p hp
theorem at_equal {w0 w : World} {tb K : Nat} {T : Tr} (h : At w0 w tb T K) (hK : K ≤ 90000) (hT : Nt.Mok T) (hX : Nt.Bok T) (p q : ByteArray) (hp : p.size ≤ 100000) (hq : q.size ≤ 100000) :
    Calls Tryz.prog 43 #[.pointer (some ⟨tb, 0, none⟩), .string p, .pointer (some ⟨tb, 0, none⟩), .string q] w fun e w' => e = .returned (.bool (eqv T p T q)) ∧ Below w.heap.size w w' := by
  obtain ⟨F, ad, mb, hF, hR⟩ := h.rep
  exact equal15 h.wf hK hT hX hR h.wf hK hT hX hR p q hp hq
theorem conv_x (w : World) : (convert 36 36 (.slice (some ⟨w.heap.size, 0, none⟩) 1 1)).run Tryz.prog (w.alloc (.cells #[.int .u8 120] 5)) = .ok (.slice (some ⟨w.heap.size, 0, none⟩) 1 1) (w.alloc (.cells #[.int .u8 120] 5 (1, 2))) :=
  Lib.run_convert_bytes_const w 36 5 #[.int .u8 120] 1 1 Tryz.underlying36 Tryz.underlying5
theorem rb_x (w : World) : RB (w.alloc (.cells #[.int .u8 120] 5 (1, 2))) (w.alloc (.cells #[.int .u8 120] 5 (1, 2))).heap.size (some ⟨w.heap.size, 0, none⟩) 1 [120] := by
  have h : (w.alloc (.cells #[.int .u8 120] 5 (1, 2))).heap[w.heap.size]? = some (.cells #[.int .u8 120] 5 (1, 2)) := by
    show (w.heap.push _)[w.heap.size]? = _
    simp
  refine ⟨rfl, fun _ => ⟨w.heap.size, 0, rfl, by simp, fun j hj => ?_⟩⟩
  unfold World.cell?
  simp only
  rw [h]
  rcases j with _ | j
  · rfl
  · omega
theorem al_of3 {w0 w : World} {tb : Nat} {A : Option Addr} (h : At w0 w tb (U3 A) 904) :
    Calls Tryz.prog 36 #[.pointer (some ⟨tb, 0, none⟩), .string ⟨#[]⟩] w fun e w' => ∃ b o c L, e = .returned (.tuple #[.slice (some ⟨b, o, none⟩) 3 c, .int .i64 0]) ∧ MRowW w' (some ⟨b, o, none⟩) 3 L ∧ (∀ x ∈ L, x.2.n ≤ 1000000) ∧ byN L = 1 ∧ (∀ W, Below w'.heap.size w' W → W.cell? ⟨b, o + 2 * 8 + 1, none⟩ = some (.int .i64 2) ∧ W.cell? ⟨b, o + 2 * 8 + 6, none⟩ = some (.string tab15)) ∧ Below w.heap.size w w' := by
  refine (at_of h (by decide) (tl9 A) (tl10 A) ⟨#[]⟩ (by decide)).mono ?_
  rintro e w' ⟨A5, c5, L, rfl, hl, hm, _, _, hb⟩
  rw [tl5] at hl
  have hlen : L.length = 3 := by have := congrArg List.length hl; simpa using this
  rw [hlen] at hm ⊢
  rw [(tl4 A).1]
  obtain ⟨b, o, x, rfl, hx, hc⟩ := mrow_at hm.weak.1 (show 2 < 3 by omega)
  have hn : L.map (·.2.n) = [0, 1, 0] := by
    have := congrArg (List.map (fun x : Mm => x.2.n)) hl
    simpa [erm, Nd.er, Function.comp_def, dir15, file15] using this
  have hx2 : erm x = erm (tc15, { file15 A with kind := 2, link := tab15, A := none, n := 0, c := 0, xs := [] }) := by
    have := congrArg (fun l : List Mm => l[2]?) hl
    simpa [hx] using this
  refine ⟨b, o, c5, L, rfl, hm.weak, fun x hx => ?_, by unfold byN; rw [hn]; rfl, fun W hW => ?_, hb⟩
  · have h1 : x.2.n ∈ L.map (·.2.n) := List.mem_map.2 ⟨x, hx, rfl⟩
    rw [hn] at h1
    simp at h1
    omega
  · obtain ⟨_, h1, _, _, _, _, h6, _⟩ := hc W hW
    have e1 : x.2.kind = 2 := congrArg (fun z : Mm => z.2.kind) hx2
    have e6 : x.2.link = tab15 := congrArg (fun z : Mm => z.2.link) hx2
    rw [e1] at h1
    rw [e6] at h6
    exact ⟨h1, h6⟩
theorem al_of1 {w0 w : World} {tb : Nat} {A : Option Addr} (h : At w0 w tb (U3 A) 904) :
    Calls Tryz.prog 36 #[.pointer (some ⟨tb, 0, none⟩), .string ta15] w fun e w' => ∃ b o c, e = .returned (.tuple #[.slice (some ⟨b, o, none⟩) 1 c, .int .i64 0]) ∧ (∀ W, Below w'.heap.size w' W → W.cell? ⟨b, o, none⟩ = some (.string tb15)) ∧ Below w.heap.size w w' := by
  refine (at_of h (by decide) (tl9 A) (tl10 A) ta15 (by decide)).mono ?_
  rintro e w' ⟨A5, c5, L, rfl, hl, hm, _, _, hb⟩
  rw [tl6] at hl
  have hlen : L.length = 1 := by have := congrArg List.length hl; simpa using this
  rw [hlen] at hm ⊢
  rw [(tl4 A).2]
  obtain ⟨b, o, x, rfl, hx, hc⟩ := mrow_at hm.weak.1 (show 0 < 1 by omega)
  have hx2 : erm x = erm (tb15, file15 A) := by
    have := congrArg (fun l : List Mm => l[0]?) hl
    simpa [hx] using this
  refine ⟨b, o, c5, rfl, fun W hW => ?_, hb⟩
  obtain ⟨h1, _⟩ := hc W hW
  have e1 : x.1 = tb15 := congrArg Prod.fst hx2
  rw [e1] at h1
  simpa using h1
end Go.Proofs.YthgbncpiehcghaaGreatDoor
/- WALKS OF LAYER 15, FOURTEENTH PART: the law's alive, walked. -/
namespace Go.Proofs.YthgbncpiehcghaaGreatDoor
set_option linter.unusedVariables false
open Go Go.RowKit Go.Maps
set_option maxRecDepth 100000
set_option maxHeartbeats 8000000
open Nt (Tr Nd WF Ps Path at_ cnt used txt Mm)
theorem alive15_any (w : World) : Calls Tryz.prog 35 #[] w fun e w' => e = .returned (.bool true) ∧ Below w.heap.size w w' := by
  have kn := Lib.hid (at_new w 9 99 (by decide) (by decide))
  have km := Lib.hid (fun W tb (h : At w W tb (Nt.new 9 99) 1) => at_mkdir h (by decide) ta15 (by decide) 0 0 0 0)
  have kc := Lib.hid (fun W tb A (h : At w W tb U1 302) (hd : RB W W.heap.size A 1 [120]) => at_create h (by decide) tab15 (by decide) 0 0 0 0 A 1 1 [120] hd (by decide))
  have kl := Lib.hid (fun W tb A (h : At w W tb (U2 A) 603) => at_link h (by decide) tc15 tab15 (by decide) (by decide))
  have ko := Lib.hid (fun W tb A (h : At w W tb (U3 A) 904) => al_of3 h)
  have kp := Lib.hid (fun W tb A (h : At w W tb (U3 A) 904) => al_of1 h)
  have ke := Lib.hid (fun W tb A (h : At w W tb (U3 A) 904) => at_equal h (by decide) (tl9 A) (tl10 A) ⟨#[]⟩ ⟨#[]⟩ (by decide) (by decide))
  have t1 := tl1
  have t2 := tl2
  unfold dir15 at t1
  unfold file15 at t2
  simp only [t1] at km
  simp only [t2] at kc
  simp only [tl3] at kl
  simp only [tl7] at ke
  clear t1 t2
  have cv := conv_x
  go_enter Tryz.func35, Tryz.ntmps35
  go_wp2_with (first
    | (go_at_call 43; refine (ke.out _ _ _ (((h3.out.later hb5).later hb6).later hb7)).mono ?_; rintro e w8 ⟨rfl, hb8⟩)
    | (go_at_call 83; refine (tbytes_any _ 3 c5 L5 _ (HM5.out.below hb6) (by omega) HN5.out).mono ?_; rintro e w7 ⟨rfl, hb7⟩; rw [HBY.out])
    | (go_at_call 36; first
        | (refine (kp.out _ _ _ (h3.out.later hb5)).mono ?_; rintro e w6 ⟨b6, o6, c6, rfl, hc6, hb6⟩; have r0 := hc6 _ (Below.refl _ _); obtain ⟨q1, q2⟩ := HC5.out _ hb6)
        | (refine (ko.out _ _ _ h3.out).mono ?_; rintro e w5 ⟨b5, o5, c5, L5, rfl, hm5, hn5, hby5, hc5, hb5⟩; have HM5 := Lib.hid hm5; have HN5 := Lib.hid hn5; have HBY := Lib.hid hby5; have HC5 := Lib.hid hc5; clear hm5 hn5 hby5 hc5))
    | (go_at_call 49; refine (kl.out _ _ _ h2.out).mono ?_; rintro e w4 ⟨rfl, h3⟩; replace h3 := Lib.hid h3)
    | (go_at_call 48; refine (kc.out _ _ _ (h1.out.later (below_new w2 _)) (rb_x w2)).mono ?_; rintro e w3 ⟨rfl, h2⟩; replace h2 := Lib.hid h2)
    | (go_at_call 44; refine (km.out _ _ h0.out).mono ?_; rintro e w2 ⟨rfl, h1⟩; replace h1 := Lib.hid h1)
    | (go_at_call 7; refine kn.out.mono ?_; rintro e w1 ⟨tb, rfl, h0⟩; replace h0 := Lib.hid h0))
  go_ret
  exact ⟨rfl, bthen (bthen (bthen (bthen h3.out.low hb5) hb6) hb7) hb8⟩
end Go.Proofs.YthgbncpiehcghaaGreatDoor
