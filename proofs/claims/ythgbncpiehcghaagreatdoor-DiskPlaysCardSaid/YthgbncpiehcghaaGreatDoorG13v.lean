/- WALKS OF LAYER 13, TWENTY-SECOND PART: alive. -/
import Derived.Test.YthgbncpiehcghaaGreatDoorGu1
import Derived.Lib.SlBytesConst
namespace Go.Proofs.YthgbncpiehcghaaGreatDoor
set_option linter.unusedVariables false
open Go Go.RowKit Go.Maps
set_option maxRecDepth 100000
set_option maxHeartbeats 8000000
open Nt (Tr Nd WF Ps Path at_ cnt used)
theorem conv_hi (w : World) : (convert 36 36 (.slice (some ⟨w.heap.size, 0, none⟩) 2 2)).run Tryz.prog (w.alloc (.cells #[.int .u8 104, .int .u8 105] 5)) = .ok (.slice (some ⟨w.heap.size, 0, none⟩) 2 2) (w.alloc (.cells #[.int .u8 104, .int .u8 105] 5 (2, 3))) :=
  Lib.run_convert_bytes_const w 36 5 #[.int .u8 104, .int .u8 105] 2 2 Tryz.underlying36 Tryz.underlying5
theorem rb_hi (w : World) : RB (w.alloc (.cells #[.int .u8 104, .int .u8 105] 5 (2, 3))) (w.alloc (.cells #[.int .u8 104, .int .u8 105] 5 (2, 3))).heap.size (some ⟨w.heap.size, 0, none⟩) 2 [104, 105] := by
  have h : (w.alloc (.cells #[.int .u8 104, .int .u8 105] 5 (2, 3))).heap[w.heap.size]? = some (.cells #[.int .u8 104, .int .u8 105] 5 (2, 3)) := by
    show (w.heap.push _)[w.heap.size]? = _
    simp
  refine ⟨rfl, fun _ => ⟨w.heap.size, 0, rfl, by simp, fun j hj => ?_⟩⟩
  unfold World.cell?
  simp only
  rw [h]
  rcases j with _ | _ | j
  · rfl
  · rfl
  · omega
theorem conv_dat {A : Option Addr} {c B : Nat} {w : World} (hr : RB w B A 2 [104, 105]) : (convert 36 9 (.slice A 2 c)).run Tryz.prog w = .ok (.string ⟨#[104, 105]⟩) w := by
  have := hr.conv c
  rw [show strOfNums [104, 105] = ⟨#[104, 105]⟩ from by decide +kernel] at this
  exact this
theorem at_same {w0 w : World} {tb K : Nat} {T : Tr} (h : At w0 w tb T K) (hK : K ≤ 100000) (p q : ByteArray) (hp : p.size ≤ 1000000) (hq : q.size ≤ 1000000) :
    Calls Tryz.prog 18 #[.pointer (some ⟨tb, 0, none⟩), .string p, .string q] w fun e w' => e = .returned (.bool (decide ((T.find p).2 = 0 ∧ (T.find q).2 = 0 ∧ (T.find p).1 = (T.find q).1))) ∧ Below w.heap.size w w' := by
  obtain ⟨F, ad, mb, hF, hR⟩ := h.rep
  exact same_tree h.wf hK hR p q hp hq
theorem os_late {w w' : World} {base : Nat} {v : Value} {xs : List ByteArray} (h : OS w base v xs) (hb : Below w.heap.size w w') : OS w' base v xs := own_keep13 h fun k hk => hb.block k (World.ownsRow.lt h k hk).2
theorem al_get {w0 w : World} {tb : Nat} {A : Option Addr} (h : At w0 w tb (S3 A 2) 904) :
    Calls Tryz.prog 41 #[.pointer (some ⟨tb, 0, none⟩), .string sc] w fun e w' => ∃ vd, e = .returned (.tuple #[.agg #[.int .i64 1, .int .i64 0, .int .i64 0, .int .i64 0, .int .i64 0, .string ⟨#[]⟩, vd, .int .i64 2], .int .i64 0]) ∧ OB w' w.heap.size 5 vd [104, 105] ∧ Below w.heap.size w w' := by
  refine (at_get h (by decide) sc (by decide)).mono ?_
  rintro e w' ⟨vd, rfl, ho, hb⟩
  refine ⟨vd, ?_, ?_, hb⟩
  · unfold infoV
    rw [(al7 A 2).1, if_pos rfl, al8, al9]
    rfl
  · have := ho (by rw [(al7 A 2).1])
    rw [(al7 A 2).1, al8] at this
    exact this
theorem al_kids (A : Option Addr) : IsKids (S3 A 2) (Nt.nms ⟨#[]⟩) [sa, sc] := by
  refine ⟨by simp; decide +kernel, fun s => ?_⟩
  rw [al11, show Nt.nms ⟨#[]⟩ = [] from rfl]
  simp only [at_, List.nil_append]
  by_cases h1 : s = sa
  · subst h1; simp
  · by_cases h2 : s = sc
    · subst h2; simp
    · have h1' : ¬ sa = s := fun e => h1 e.symm
      have h2' : ¬ sc = s := fun e => h2 e.symm
      simp [h1, h2, h1', h2']
theorem al_list {w0 w : World} {tb : Nat} {A : Option Addr} (h : At w0 w tb (S3 A 2) 904) :
    Calls Tryz.prog 50 #[.pointer (some ⟨tb, 0, none⟩), .string ⟨#[]⟩] w fun e w' => ∃ v, e = .returned (.tuple #[v, .int .i64 0]) ∧ OS w' w.heap.size v [sa, sc] ∧ Below w.heap.size w w' := by
  refine (at_list h (by decide) ⟨#[]⟩ (by decide)).mono ?_
  rintro e w' ⟨v, L, rfl, ho, hk, _, hb⟩
  rw [al10] at hk ⊢
  rw [(hk rfl).one (al_kids A)] at ho
  exact ⟨v, rfl, ho, hb⟩
theorem alive_any (w : World) : Calls Tryz.prog 10 #[] w fun e w' => e = .returned (.bool true) ∧ Below w.heap.size w w' := by
  have kn := Lib.hid (at_new w 9 100 (by decide) (by decide))
  have km := Lib.hid (fun W tb (h : At w W tb (Nt.new 9 100) 1) => at_mkdir h (by decide) sa (by decide) 7 0 0 0)
  have kc := Lib.hid (fun W tb A (h : At w W tb S1 302) (hd : RB W W.heap.size A 2 [104, 105]) => at_create h (by decide) sab (by decide) 0 0 0 0 A 2 2 [104, 105] hd (by decide))
  have kl := Lib.hid (fun W tb A (h : At w W tb (S2 A 2) 603) => at_link h (by decide) sc sab (by decide) (by decide))
  have kg := Lib.hid (fun W tb A (h : At w W tb (S3 A 2) 904) => al_get h)
  have ki := Lib.hid (fun W tb A (h : At w W tb (S3 A 2) 904) => al_list h)
  have ku := Lib.hid (fun W tb A (h : At w W tb (S3 A 2) 904) => at_used h)
  have kr := Lib.hid (fun W tb A (h : At w W tb (S3 A 2) 904) => at_remove h (by decide) sa (by decide))
  have ks := Lib.hid (fun W tb A (h : At w W tb (S3 A 2) 1205) => at_same h (by decide) sc sab (by decide) (by decide))
  have ko := Lib.hid (fun W tb A (h : At w W tb (S3 A 2) 1205) => at_clone h (by decide))
  have kq := Lib.hid (fun W tb A (h : At w W tb (S3 A 2) 1205) => at_rename h (by decide) sc sd (by decide) (by decide))
  simp only [al1] at km
  simp only [al2] at kc
  simp only [al3] at kl
  simp only [al4] at kr
  simp only [al5] at kq
  simp only [(al6 _ _).1, (al6 _ _).2] at ku
  simp only [(al7 _ _).1, (al7 _ _).2, and_self, decide_true] at ks
  have cv := conv_hi
  go_enter Tryz.func10, Tryz.ntmps10
  go_wp2_with (first
    | (go_at_call 42; refine (kq.out _ _ _ h5.out).mono ?_; rintro e w10 ⟨rfl, h6⟩)
    | (go_at_call 40; refine (ko.out _ _ _ (h4.out.later hb8)).mono ?_; rintro e w9 ⟨tb2, rfl, h5, _⟩; replace h5 := Lib.hid h5)
    | (go_at_call 18; refine (ks.out _ _ _ h4.out).mono ?_; rintro e w8 ⟨rfl, hb8⟩)
    | (go_at_call 51; refine (kr.out _ _ _ (((h3.out.later hb5).later (below_new w5 _)).later (bthen hb6 hb7))).mono ?_; rintro e w8 ⟨rfl, h4⟩; replace h4 := Lib.hid h4)
    | (go_at_call 15; refine (ku.out _ _ _ (((h3.out.later hb5).later (below_new w5 _)).later hb6)).mono ?_; rintro e w7 ⟨rfl, hb7⟩; have hb57 := Lib.hid (bthen (bthen (below_new w5 (.cells #[.int .i64 1, .int .i64 0, .int .i64 0, .int .i64 0, .int .i64 0, .string ⟨#[]⟩, .slice A5 2 c5, .int .i64 2] 92)) hb6) hb7); have hbx := Lib.hid ((BX.new w5 92 #[.int .i64 1, .int .i64 0, .int .i64 0, .int .i64 0, .int .i64 0, .string ⟨#[]⟩, .slice A5 2 c5, .int .i64 2]).later (bthen hb6 hb7)); have d6 : w7.cell? ⟨w5.heap.size, 6, none⟩ = some (.slice A5 2 c5) := hbx.out.cell rfl; have d7 : w7.cell? ⟨w5.heap.size, 7, none⟩ = some (.int .i64 2) := hbx.out.cell rfl; have cd := conv_dat (c := c5) (hr5.below hb57.out); obtain ⟨b, x, rfl, hx, hcx⟩ := (os_late hos hb7).rt13.at_ (k := 0) (by simp); obtain rfl : sa = x := by simpa using hx)
    | (go_at_call 50; refine (ki.out _ _ _ ((h3.out.later hb5).later (below_new w5 _))).mono ?_; rintro e w6 ⟨v6, rfl, hos, hb6⟩; obtain ⟨A6, c6, rfl, hrt, hl6, hm6⟩ := hos.rt)
    | (go_at_call 41; refine (kg.out _ _ _ h3.out).mono ?_; rintro e w5 ⟨vd, rfl, hd, hb5⟩; obtain ⟨A5, c5, rfl, hr5, hl5, hm5⟩ := hd.rb)
    | (go_at_call 49; refine (kl.out _ _ _ h2.out).mono ?_; rintro e w4 ⟨rfl, h3⟩; replace h3 := Lib.hid h3)
    | (go_at_call 48; refine (kc.out _ _ _ (h1.out.later (below_new w2 _)) (rb_hi w2)).mono ?_; rintro e w3 ⟨rfl, h2⟩; replace h2 := Lib.hid h2)
    | (go_at_call 44; refine (km.out _ _ h0.out).mono ?_; rintro e w2 ⟨rfl, h1⟩; replace h1 := Lib.hid h1)
    | (go_at_call 7; refine kn.out.mono ?_; rintro e w1 ⟨tb, rfl, h0⟩; replace h0 := Lib.hid h0))
  go_ret
  exact ⟨rfl, h6.low⟩
end Go.Proofs.YthgbncpiehcghaaGreatDoor
