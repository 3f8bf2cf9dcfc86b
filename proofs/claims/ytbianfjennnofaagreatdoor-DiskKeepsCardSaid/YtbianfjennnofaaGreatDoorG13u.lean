/- WALKS OF LAYER 13, TWENTY-FIRST PART: a tree and its steps; alive's model. -/
import Derived.Test.YtbianfjennnofaaGreatDoorG13s
import Derived.Test.YtbianfjennnofaaGreatDoorG13o
import Derived.Test.YtbianfjennnofaaGreatDoorGy1
namespace Go.Proofs.YtbianfjennnofaaGreatDoor
set_option linter.unusedVariables false
open Go Go.RowKit Go.Maps
set_option maxRecDepth 100000
set_option maxHeartbeats 4000000
open Nt (Tr Nd WF Ps Path at_ cnt used)
/-- A TREE T AT tb, BUILT SINCE w0. -/
structure At (w0 w : World) (tb : Nat) (T : Tr) (K : Nat) : Prop where
  wf : WF T K
  low : Below w0.heap.size w0 w
  rep : ∃ F ad mb, (∀ k, F k → w0.heap.size ≤ k ∧ k < w.heap.size) ∧ RepP F K w tb T ad mb
section
variable {w0 w w' : World} {tb K : Nat} {T : Tr}
theorem At.later (h : At w0 w tb T K) (hb : Below w.heap.size w w') : At w0 w' tb T K :=
  let ⟨F, ad, mb, hF, hR⟩ := h.rep
  ⟨h.wf, h.low.trans (hb.mono h.low.size), F, ad, mb, fun k hk => ⟨(hF k hk).1, Nat.lt_of_lt_of_le (hF k hk).2 hb.size⟩, hR.later hb⟩
theorem At.of_done {F : Nat → Prop} {r : Tr × Int} {e : Ending} (h : At w0 w tb T K) (hF : ∀ k, F k → w0.heap.size ≤ k ∧ k < w.heap.size) (hw : WF r.1 (K + 301)) (hd : Done F K w w' tb r e) : e = .returned (.int .i64 r.2) ∧ At w0 w' tb r.1 (K + 301) := by
  obtain ⟨rfl, ⟨ad, mb, hR⟩, hk⟩ := hd
  refine ⟨rfl, hw, h.low.trans (hk.below (fun k hk => (hF k hk).1) h.low.size), Grow F w w', ad, mb, ?_, hR⟩
  rintro k (h1 | h1)
  · exact ⟨(hF k h1).1, Nat.lt_of_lt_of_le (hF k h1).2 hk.size⟩
  · exact ⟨Nat.le_trans h.low.size h1.1, h1.2⟩
theorem mk_small {p : ByteArray} {x : Nd} (hE : T.mkE p x = 0) (hk : x.kind = 1 := by rfl) : x.n ≤ 4096 := by
  unfold Tr.mkE at hE
  by_cases hf : T.fresh p = 0
  · rw [if_neg (by simp [hf])] at hE
    by_cases hm : Nt.metaOk x.mode x.uid x.gid x.mtime = false
    · rw [if_pos hm] at hE
      cases hE
    · rw [if_neg hm] at hE
      by_cases h4 : x.kind = 1 ∧ 4096 < x.n
      · rw [if_pos h4] at hE
        cases hE
      · exact Nat.le_of_not_lt fun h5 => h4 ⟨hk, h5⟩
  · rw [if_pos hf] at hE
    exact absurd hE hf
theorem at_mkdir (h : At w0 w tb T K) (hK : K ≤ 100000) (p : ByteArray) (hp : p.size ≤ 1000000) (a b c d : Int) :
    Calls Tryz.prog 40 #[.pointer (some ⟨tb, 0, none⟩), .string p, .agg #[.int .i64 a, .int .i64 b, .int .i64 c, .int .i64 d]] w fun e w' => e = .returned (.int .i64 (T.mk' p ⟨4, a, b, c, d, ⟨#[]⟩, none, 0, 0, []⟩).2) ∧ At w0 w' tb (T.mk' p ⟨4, a, b, c, d, ⟨#[]⟩, none, 0, 0, []⟩).1 (K + 301) := by
  obtain ⟨F, ad, mb, hF, hR⟩ := h.rep
  exact (mkdir_any h.wf hK hR p hp a b c d).mono fun e w' hd => h.of_done hF (h.wf.mk' fun _ => ⟨.inr (.inr rfl), rfl, Nat.zero_le _, fun _ => rfl, fun _ => rfl⟩) hd
theorem at_create (h : At w0 w tb T K) (hK : K ≤ 100000) (p : ByteArray) (hp : p.size ≤ 1000000) (a b c d : Int) (A : Option Addr) (n k : Nat) (xs : List Int) (hd : RB w w.heap.size A n xs) (hn : n ≤ 1000000) :
    Calls Tryz.prog 41 #[.pointer (some ⟨tb, 0, none⟩), .string p, .agg #[.int .i64 a, .int .i64 b, .int .i64 c, .int .i64 d], .slice A n k] w fun e w' => e = .returned (.int .i64 (T.mk' p ⟨1, a, b, c, d, ⟨#[]⟩, A, n, k, xs⟩).2) ∧ At w0 w' tb (T.mk' p ⟨1, a, b, c, d, ⟨#[]⟩, A, n, k, xs⟩).1 (K + 301) := by
  obtain ⟨F, ad, mb, hF, hR⟩ := h.rep
  exact (create_any h.wf hK hR p hp a b c d A n k xs hd hn).mono fun e w' hd2 => h.of_done hF (h.wf.mk' fun hE => ⟨.inl rfl, hd.1, mk_small hE, fun h => absurd rfl h, fun _ => rfl⟩) hd2
theorem at_link (h : At w0 w tb T K) (hK : K ≤ 100000) (p old : ByteArray) (hp : p.size ≤ 1000000) (ho : old.size ≤ 1000000) :
    Calls Tryz.prog 42 #[.pointer (some ⟨tb, 0, none⟩), .string p, .string old] w fun e w' => e = .returned (.int .i64 (T.lnk p old).2) ∧ At w0 w' tb (T.lnk p old).1 (K + 301) := by
  obtain ⟨F, ad, mb, hF, hR⟩ := h.rep
  exact (link_any h.wf hK hR p old hp ho).mono fun e w' hd => h.of_done hF (h.wf.lnk' p old) hd
theorem at_remove (h : At w0 w tb T K) (hK : K ≤ 100000) (p : ByteArray) (hp : p.size ≤ 1000000) :
    Calls Tryz.prog 45 #[.pointer (some ⟨tb, 0, none⟩), .string p] w fun e w' => e = .returned (.int .i64 (T.rm p).2) ∧ At w0 w' tb (T.rm p).1 (K + 301) := by
  obtain ⟨F, ad, mb, hF, hR⟩ := h.rep
  exact (remove_any h.wf hK hR p hp).mono fun e w' hd => h.of_done hF (h.wf.rm' p) hd
theorem at_rename (h : At w0 w tb T K) (hK : K ≤ 100000) (f t : ByteArray) (hf : f.size ≤ 100000) (ht : t.size ≤ 100000) :
    Calls Tryz.prog 47 #[.pointer (some ⟨tb, 0, none⟩), .string f, .string t] w fun e w' => e = .returned (.int .i64 (T.rn f t).2) ∧ At w0 w' tb (T.rn f t).1 (K + 301) := by
  obtain ⟨F, ad, mb, hF, hR⟩ := h.rep
  exact (rename_any h.wf hK hR f t hf ht).mono fun e w' hd => h.of_done hF (h.wf.rn' f t) hd
theorem at_clear (h : At w0 w tb T K) (hK : K ≤ 100000) (p : ByteArray) (hp : p.size ≤ 1000000) :
    Calls Tryz.prog 58 #[.pointer (some ⟨tb, 0, none⟩), .string p] w fun e w' => e = .returned (.int .i64 (T.clr p).2) ∧ At w0 w' tb (T.clr p).1 (K + 301) := by
  obtain ⟨F, ad, mb, hF, hR⟩ := h.rep
  exact (clear_any h.wf hK hR p hp).mono fun e w' hd => h.of_done hF (h.wf.clr' p) hd
theorem at_set (h : At w0 w tb T K) (hK : K ≤ 100000) (p : ByteArray) (hp : p.size ≤ 1000000) (a b c d : Int) :
    Calls Tryz.prog 57 #[.pointer (some ⟨tb, 0, none⟩), .string p, .agg #[.int .i64 a, .int .i64 b, .int .i64 c, .int .i64 d]] w fun e w' => e = .returned (.int .i64 (T.st p a b c d).2) ∧ At w0 w' tb (T.st p a b c d).1 (K + 301) := by
  obtain ⟨F, ad, mb, hF, hR⟩ := h.rep
  exact (set_any h.wf hK hR p hp a b c d).mono fun e w' hd => h.of_done hF (h.wf.st' p a b c d) hd
theorem at_clone (h : At w0 w tb T K) (hK : K ≤ 100000) :
    Calls Tryz.prog 46 #[.pointer (some ⟨tb, 0, none⟩)] w fun e w' => ∃ tb', e = .returned (.pointer (some ⟨tb', 0, none⟩)) ∧ At w0 w' tb' T K ∧ At w0 w' tb T K := by
  obtain ⟨F, ad, mb, hF, hR⟩ := h.rep
  refine (tclone_any h.wf hK hR).mono ?_
  rintro e w' ⟨tb', rfl, hl, ⟨ad', mb', hR'⟩, hb⟩
  refine ⟨tb', rfl, ⟨h.wf, h.low.trans (hb.mono h.low.size), _, ad', mb', ?_, hR'⟩, h.later hb⟩
  rintro k (h1 | h1)
  · exact h1.elim
  · exact ⟨Nat.le_trans h.low.size h1.1, h1.2⟩
theorem at_get (h : At w0 w tb T K) (hK : K ≤ 100000) (p : ByteArray) (hp : p.size ≤ 1000000) :
    Calls Tryz.prog 43 #[.pointer (some ⟨tb, 0, none⟩), .string p] w fun e w' => ∃ vd, e = .returned (.tuple #[infoV T p vd, .int .i64 (T.find p).2]) ∧
      ((T.find p).2 = 0 → w'.ownsRow w.heap.size 5 1 vd (T.nd (T.find p).1).xs.length (Lib.strCells (strOfNums (T.nd (T.find p).1).xs))) ∧ Below w.heap.size w w' := by
  obtain ⟨F, ad, mb, hF, hR⟩ := h.rep
  exact get_any h.wf hK hR p hp
theorem at_list (h : At w0 w tb T K) (hK : K ≤ 100000) (p : ByteArray) (hp : p.size ≤ 1000000) :
    Calls Tryz.prog 44 #[.pointer (some ⟨tb, 0, none⟩), .string p] w fun e w' => ∃ v L, e = .returned (.tuple #[v, .int .i64 (lsE T p)]) ∧ OS w' w.heap.size v L ∧ (lsE T p = 0 → IsKids T (Nt.nms p) L) ∧ (lsE T p ≠ 0 → L = []) ∧ Below w.heap.size w w' := by
  obtain ⟨F, ad, mb, hF, hR⟩ := h.rep
  exact list_any h.wf hK hR p hp
theorem at_used (h : At w0 w tb T K) : Calls Tryz.prog 15 #[.pointer (some ⟨tb, 0, none⟩)] w fun e w' => e = .returned (.tuple #[.int .i64 (T.usedN : Nat), .int .i64 (T.usedB : Nat)]) ∧ Below w.heap.size w w' := by
  obtain ⟨F, ad, mb, hF, hR⟩ := h.rep
  exact used_any hR
theorem at_new (w : World) (a b : Int) (ha : a ≤ 9223372036854775807) (hb : b ≤ 9223372036854775807) : Calls Tryz.prog 7 #[.int .i64 a, .int .i64 b] w fun e w' => ∃ tb, e = .returned (.pointer (some ⟨tb, 0, none⟩)) ∧ At w w' tb (Nt.new a b) 1 := by
  refine (new_any w a b).mono ?_
  rintro e w' ⟨rfl, ⟨ad, mb, hR⟩, hl⟩
  refine ⟨_, rfl, Nt.WF.new a b ha hb, hl, _, ad, mb, ?_, hR⟩
  rintro k (h1 | h1)
  · exact h1.elim
  · exact h1
end
abbrev sa : ByteArray := ⟨#[97]⟩
abbrev sab : ByteArray := ⟨#[97, 47, 98]⟩
abbrev sc : ByteArray := ⟨#[99]⟩
abbrev sd : ByteArray := ⟨#[100]⟩
abbrev nA : Nd := ⟨4, 7, 0, 0, 0, ⟨#[]⟩, none, 0, 0, []⟩
abbrev nB (A : Option Addr) (k : Nat) : Nd := ⟨1, 0, 0, 0, 0, ⟨#[]⟩, A, 2, k, [104, 105]⟩
def S1 : Tr := (Nt.new 9 100).mk1 sa nA
def S2 (A : Option Addr) (k : Nat) : Tr := S1.mk1 sab (nB A k)
def S3 (A : Option Addr) (k : Nat) : Tr := (S2 A k).lnk1 sc 2
theorem al1 : (Nt.new 9 100).mk' sa nA = (S1, 0) := by kernel_rfl
theorem al2 (A : Option Addr) (k : Nat) : S1.mk' sab (nB A k) = (S2 A k, 0) := by kernel_rfl
theorem al3 (A : Option Addr) (k : Nat) : (S2 A k).lnk sc sab = (S3 A k, 0) := by kernel_rfl
theorem al4 (A : Option Addr) (k : Nat) : (S3 A k).rm sa = (S3 A k, 18) := by kernel_rfl
theorem al5 (A : Option Addr) (k : Nat) : (S3 A k).rn sc sd = ((S3 A k).rn1 [sc] [sd], 0) := by kernel_rfl
theorem al6 (A : Option Addr) (k : Nat) : (S3 A k).usedN = 2 ∧ (S3 A k).usedB = 2 := ⟨by kernel_rfl, by kernel_rfl⟩
theorem al7 (A : Option Addr) (k : Nat) : (S3 A k).find sc = (2, 0) ∧ (S3 A k).find sab = (2, 0) := ⟨by kernel_rfl, by kernel_rfl⟩
theorem al8 (A : Option Addr) (k : Nat) : (S3 A k).nd 2 = nB A k := by kernel_rfl
theorem al9 (A : Option Addr) (k : Nat) : cnt (S3 A k).paths 2 = 2 := by kernel_rfl
theorem al10 (A : Option Addr) (k : Nat) : lsE (S3 A k) ⟨#[]⟩ = 0 := by kernel_rfl
theorem al11 (A : Option Addr) (k : Nat) : (S3 A k).paths = [([], 0), ([sa], 1), ([sa, ⟨#[98]⟩], 2), ([sc], 2)] := by kernel_rfl
/-- A step's cells. -/
abbrev StC (kd : Int) (p q : ByteArray) (a b c d : Int) (A : Option Addr) (n k : Nat) : Array Value := #[.int .u8 kd, .string p, .string q, .int .i64 a, .int .i64 b, .int .i64 c, .int .i64 d, .slice A n k]
end Go.Proofs.YtbianfjennnofaaGreatDoor
