/- WALKS OF LAYER 12, FIFTH PART: what the reference's Of keeps in memory; a round's numbers. -/
import Derived.Test.YtfggknplekiaoaaDoorD12d
namespace Go.Proofs.YtfggknplekiaoaaDoor
open Go Go.RowKit
set_option maxHeartbeats 2000000
set_option maxRecDepth 100000
set_option linter.unusedVariables false
namespace Dg
def St.l (s : St) : List Nat := [s.a, s.b, s.c, s.d, s.e, s.f, s.g, s.h]
def St.ok (s : St) : Prop := s.a < 4294967296 ∧ s.b < 4294967296 ∧ s.c < 4294967296 ∧ s.d < 4294967296 ∧ s.e < 4294967296 ∧ s.f < 4294967296 ∧ s.g < 4294967296 ∧ s.h < 4294967296
theorem H_ok : H.ok := by unfold St.ok H; decide
theorem round_ok {s : St} (h : s.ok) (k w : Nat) : (round s k w).ok := by
  obtain ⟨h1, h2, h3, h4, h5, h6, h7, h8⟩ := h
  exact ⟨Nat.mod_lt _ (by omega), h1, h2, h3, Nat.mod_lt _ (by omega), h5, h6, h7⟩
theorem rs_ok {w : List Nat} {s : St} (h : s.ok) : ∀ i, (rs w s i).ok
  | 0 => h
  | i + 1 => round_ok (rs_ok h i) _ _
theorem add_ok (s t : St) : (add s t).ok := ⟨Nat.mod_lt _ (by omega), Nat.mod_lt _ (by omega), Nat.mod_lt _ (by omega), Nat.mod_lt _ (by omega), Nat.mod_lt _ (by omega), Nat.mod_lt _ (by omega), Nat.mod_lt _ (by omega), Nat.mod_lt _ (by omega)⟩
theorem hb_ok {s : St} (h : s.ok) : ∀ (k : Nat) (b : List Int), (hb s k b).ok
  | 0, _ => h
  | k + 1, b => hb_ok (add_ok _ _) k _
theorem hb_snoc (s : St) : ∀ (k : Nat) (b : List Int), hb s (k + 1) b = cmp (hb s k b) ((b.drop (64 * k)).take 64)
  | 0, b => by simp [hb]
  | k + 1, b => by
    show hb (cmp s (b.take 64)) (k + 1) (b.drop 64) = cmp (hb (cmp s (b.take 64)) k (b.drop 64)) _
    rw [hb_snoc (cmp s (b.take 64)) k (b.drop 64), List.drop_drop, show 64 + 64 * k = 64 * (k + 1) from by omega]
theorem K_len : K.length = 64 := rfl
theorem P_len : P64.length = 64 := rfl
theorem K_at {i q : Nat} (h : P64[i]? = some q) : root q true = K.getD i 0 := by
  have e : (P64.map (fun p => root p true))[i]? = some (root q true) := by rw [List.getElem?_map, h, Option.map_some]
  rw [K_root] at e
  rw [List.getD_eq_getElem?_getD, e, Option.getD_some]
theorem H_at {i q : Nat} (hi : i < 8) (h : P64[i]? = some q) : root q false = H.l.getD i 0 := by
  have e : ((P64.take 8).map (fun p => root p false))[i]? = some (root q false) := by rw [List.getElem?_map, List.getElem?_take, if_pos hi, h, Option.map_some]
  rw [H_root] at e
  rw [List.getD_eq_getElem?_getD]
  rw [show H.l = [H.a, H.b, H.c, H.d, H.e, H.f, H.g, H.h] from rfl, e, Option.getD_some]
theorem P_lt {i q : Nat} (h : P64[i]? = some q) : q < 100000 := by
  have hm := List.mem_of_getElem? h
  have : ∀ q ∈ P64, q < 100000 := by decide
  exact this q hm
theorem K_lt (i : Nat) : K.getD i 0 < 4294967296 := by
  by_cases h : i < K.length
  · have : ∀ q ∈ K, q < 4294967296 := by decide
    rw [List.getD_eq_getElem?_getD, List.getElem?_eq_getElem h]
    exact this _ (List.getElem_mem h)
  · rw [List.getD_eq_getElem?_getD, List.getElem?_eq_none (by omega)]
    decide
/-- A list laid cell by cell over noughts. -/
def lay (l : List Nat) (n i : Nat) : List Nat := l.take i ++ List.replicate (n - i) 0
theorem lay_len {l : List Nat} {n i : Nat} (h : l.length = n) (hi : i ≤ n) : (lay l n i).length = n := by unfold lay; rw [List.length_append, List.length_take, List.length_replicate]; omega
theorem lay_all {l : List Nat} {n : Nat} (h : l.length = n) : lay l n n = l := by unfold lay; rw [Nat.sub_self, List.take_of_length_le (by omega)]; simp
theorem lay_set {l : List Nat} {n i : Nat} (h : l.length = n) (hi : i < n) : (lay l n i).set i (l.getD i 0) = lay l n (i + 1) := by
  unfold lay
  rw [List.set_append_right _ _ (by rw [List.length_take]; omega), List.length_take, show i - min i l.length = 0 from by omega, show n - i = (n - (i + 1)) + 1 from by omega, List.replicate_succ, List.set_cons_zero]
  rw [List.take_add_one, show l[i]? = some (l.getD i 0) from by simp [List.getD, show i < l.length from by omega]]
  simp
end Dg
theorem BX.grown {w w' : World} {a : Nat} {T : TypeId} {cs : Array Value} {B : Nat} (h : BX w a T cs) (hb : Below B w w') (ha : a < B) : BX w' a T cs := h.below hb ha
/-- WHAT Of KEEPS: the boxes of k, of p, of the result, the row of primes. -/
structure OfM (w W : World) (R P K g : Nat) (kl pl : List Nat) (T24 T44 T45 : TypeId) : Prop where
  k : WX W K T45 kl
  p : WX W P T44 pl
  f : ∀ (j q : Nat), Dg.P64[j]? = some q → W.cell? ⟨g, j, none⟩ = some (.int .i64 q)
  r : BX W R T24 (List.replicate 32 (Value.int .u8 0)).toArray
  b : Below w.heap.size w W
  hg : g < W.heap.size
  nkp : K ≠ P
  nkg : K ≠ g
  npg : P ≠ g
  nkr : K ≠ R
  npr : P ≠ R
  bk : w.heap.size ≤ K
  bp : w.heap.size ≤ P
  br : w.heap.size ≤ R
section
variable {w W W' : World} {R P K g : Nat} {kl pl : List Nat} {T24 T44 T45 : TypeId}
theorem OfM.later (h : OfM w W R P K g kl pl T24 T44 T45) (hb : Below W.heap.size W W') : OfM w W' R P K g kl pl T24 T44 T45 :=
  { h with
    k := BX.later h.k hb
    p := BX.later h.p hb
    f := fun j q hj => (hb.cell (p := ⟨g, j, none⟩) h.hg).trans (h.f j q hj)
    r := BX.later h.r hb
    b := h.b.trans (hb.mono h.b.size)
    hg := Nat.lt_of_lt_of_le h.hg hb.size }
theorem OfM.drewN (h : OfM w W R P K g kl pl T24 T44 T45) (n : Nat) : OfM w (W.drewN n) R P K g kl pl T24 T44 T45 := h.later (below_drewN (Below.refl _ _) n)
theorem OfM.setk (h : OfM w W R P K g kl pl T24 T44 T45) (i x : Nat) : OfM w (W.setCell ⟨K, i, none⟩ (.int .u32 x)) R P K g (kl.set i x) pl T24 T44 T45 :=
  { h with
    k := WX.set h.k i x
    p := BX.other h.p (fun e => h.nkp e.symm) _
    f := fun j q hj => (World.cell?_setCell_other _ _ _ _ (by intro e; injection e; exact h.nkg (by omega))).trans (h.f j q hj)
    r := BX.other h.r (fun e => h.nkr e.symm) _
    b := h.b.setCell h.bk _
    hg := by simpa [World.setCell] using h.hg }
theorem OfM.setp (h : OfM w W R P K g kl pl T24 T44 T45) (i x : Nat) : OfM w (W.setCell ⟨P, i, none⟩ (.int .u32 x)) R P K g kl (pl.set i x) T24 T44 T45 :=
  { h with
    k := BX.other h.k h.nkp _
    p := WX.set h.p i x
    f := fun j q hj => (World.cell?_setCell_other _ _ _ _ (by intro e; injection e; exact h.npg (by omega))).trans (h.f j q hj)
    r := BX.other h.r (fun e => h.npr e.symm) _
    b := h.b.setCell h.bp _
    hg := by simpa [World.setCell] using h.hg }
/-- A store into a block that is none of these. -/
theorem OfM.aside (h : OfM w W R P K g kl pl T24 T44 T45) {a : Nat} (i : Nat) (v : Value) (h1 : K ≠ a) (h2 : P ≠ a) (h3 : g ≠ a) (h4 : R ≠ a) (h5 : w.heap.size ≤ a) : OfM w (W.setCell ⟨a, i, none⟩ v) R P K g kl pl T24 T44 T45 :=
  { h with
    k := BX.other h.k h1 _
    p := BX.other h.p h2 _
    f := fun j q hj => (World.cell?_setCell_other _ _ _ _ (by intro e; injection e; exact h3 (by omega))).trans (h.f j q hj)
    r := BX.other h.r h4 _
    b := h.b.setCell h5 _
    hg := by simpa [World.setCell] using h.hg }
end
theorem OfM.asides {w W : World} {R P K g : Nat} {kl pl : List Nat} {T24 T44 T45 : TypeId} {a : Nat} (h1 : K ≠ a) (h2 : P ≠ a) (h3 : g ≠ a) (h4 : R ≠ a) (h5 : w.heap.size ≤ a) :
    ∀ (vs : List Value) (i : Nat) {W : World}, OfM w W R P K g kl pl T24 T44 T45 → OfM w (W.setCells a i vs) R P K g kl pl T24 T44 T45
  | [], _, _, h => h
  | v :: vs, i, _, h => OfM.asides (W := W) h1 h2 h3 h4 h5 vs (i + 1) (h.aside i v h1 h2 h3 h4 h5)
theorem BX.asides {w : World} {a b : Nat} {T : TypeId} {cs : Array Value} (hne : a ≠ b) : ∀ (vs : List Value) (i : Nat) {w : World}, BX w a T cs → BX (w.setCells b i vs) a T cs
  | [], _, _, h => h
  | v :: vs, i, _, h => BX.asides (w := w) hne vs (i + 1) (h.other hne v)
namespace Dg
theorem fill_byt {xs : List Int} (h : Byt xs) : Byt (fill xs) := by
  unfold fill
  refine h.append (Byt.append (Byt.append (Byt.cons (by omega) Byt.nil) ?_) ?_)
  · intro j
    simp [List.getD_eq_getElem?_getD, List.getElem?_replicate]
    split <;> simp
  · exact Byt.cons (by omega) (Byt.cons (by omega) (Byt.cons (by omega) (Byt.cons (by omega) (Byt.cons (by omega) (Byt.cons (by omega) (Byt.cons (by omega) (Byt.cons (by omega) Byt.nil)))))))
theorem fill_whole (n : Nat) : (n + 1 + pad n + 8) % 64 = 0 := by unfold pad; omega
/-- p behind j of the sums. -/
def mix (s t : St) (j : Nat) : List Nat := (add s t).l.take j ++ s.l.drop j
theorem l_len (s : St) : s.l.length = 8 := rfl
theorem mix_len (s t : St) {j : Nat} (h : j ≤ 8) : (mix s t j).length = 8 := by unfold mix; rw [List.length_append, List.length_take, List.length_drop, l_len, l_len]; omega
theorem mix_none (s t : St) : mix s t 0 = s.l := rfl
theorem mix_all (s t : St) : mix s t 8 = (add s t).l := rfl
theorem mix_at (s t : St) {j : Nat} (h : j < 8) : (mix s t j).getD j 0 = s.l.getD j 0 := by
  rcases (by omega : j = 0 ∨ j = 1 ∨ j = 2 ∨ j = 3 ∨ j = 4 ∨ j = 5 ∨ j = 6 ∨ j = 7) with rfl | rfl | rfl | rfl | rfl | rfl | rfl | rfl <;> rfl
theorem mix_set (s t : St) {j : Nat} (h : j < 8) : (mix s t j).set j ((s.l.getD j 0 + t.l.getD j 0) % 4294967296) = mix s t (j + 1) := by
  rcases (by omega : j = 0 ∨ j = 1 ∨ j = 2 ∨ j = 3 ∨ j = 4 ∨ j = 5 ∨ j = 6 ∨ j = 7) with rfl | rfl | rfl | rfl | rfl | rfl | rfl | rfl <;> rfl
theorem l_lt {s : St} (h : s.ok) (j : Nat) : s.l.getD j 0 < 4294967296 := by
  obtain ⟨h1, h2, h3, h4, h5, h6, h7, h8⟩ := h
  by_cases hj : j < 8
  · rcases (by omega : j = 0 ∨ j = 1 ∨ j = 2 ∨ j = 3 ∨ j = 4 ∨ j = 5 ∨ j = 6 ∨ j = 7) with rfl | rfl | rfl | rfl | rfl | rfl | rfl | rfl <;> assumption
  · rw [List.getD_eq_getElem?_getD, List.getElem?_eq_none (by rw [l_len]; omega)]
    decide
theorem comp {r : Nat} (h : r < 4294967296) : r ^^^ 4294967295 = 4294967295 - r := by
  have h1 : (BitVec.ofNat 32 r ^^^ BitVec.allOnes 32).toNat = (~~~ BitVec.ofNat 32 r).toNat := by rw [BitVec.xor_allOnes]
  rw [BitVec.toNat_xor, BitVec.toNat_not, BitVec.toNat_ofNat, BitVec.toNat_allOnes, Nat.mod_eq_of_lt (by omega)] at h1
  exact h1
theorem turn_all {r : Nat} (h : r < 4294967296) : bits .xor .u32 IntKind.u32.max (r : Int) = ((4294967295 - r : Nat) : Int) := by
  have := u32_xor_nat 4294967295 r (by omega) h
  rw [Nat.xor_comm, comp h] at this
  exact this
theorem xor_lt {a b : Nat} (ha : a < 4294967296) (hb : b < 4294967296) : a ^^^ b < 4294967296 := Nat.xor_lt_two_pow (n := 32) ha hb
theorem and_lt {a b : Nat} (hb : b < 4294967296) : a &&& b < 4294967296 := Nat.and_lt_two_pow (n := 32) _ hb
end Dg
theorem turn_q {x n : Nat} (W : World) (k : Nat) (hx : x < 4294967296) (h1 : 1 ≤ n) (h2 : n ≤ 31) :
    Calls Tryd.prog 18 #[.int .u32 x, .int .i64 n] (W.drewN k) fun e w' => e = .returned (.int .u32 (Dg.rot x n : Nat)) ∧ ∃ m, w' = W.drewN m :=
  (turn_any x n (W.drewN k) hx h1 h2).mono fun e w' ⟨he, m, hm⟩ => ⟨he, k + m, by rw [hm]; show ({ W.drewN k with drawn := _ } : World) = _; simp [World.drewN, Nat.add_assoc]⟩
theorem RB.aside {w : World} {B b o n a i : Nat} {xs : List Int} (h : RB w B (some ⟨b, o, none⟩) n xs) (hne : b ≠ a) (v : Value) : RB (w.setCell ⟨a, i, none⟩ v) B (some ⟨b, o, none⟩) n xs :=
  ⟨h.1, fun hn => by
    obtain ⟨_, _, e, hb, hc⟩ := h.2 hn
    cases e
    exact ⟨b, o, rfl, hb, fun j hj => (World.cell?_setCell_other _ _ _ _ (by intro e; injection e; exact hne (by omega))).trans (hc j hj)⟩⟩
theorem RB.asides {w : World} {B b o n a : Nat} {xs : List Int} (hne : b ≠ a) : ∀ (vs : List Value) (i : Nat) {w : World}, RB w B (some ⟨b, o, none⟩) n xs → RB (w.setCells a i vs) B (some ⟨b, o, none⟩) n xs
  | [], _, _, h => h
  | v :: vs, i, _, h => RB.asides (w := w) hne vs (i + 1) (h.aside hne v)
theorem size_sets (a : Nat) : ∀ (vs : List Value) (i : Nat) (w : World), (w.setCells a i vs).heap.size = w.heap.size
  | [], _, _ => rfl
  | v :: vs, i, w => by
    show ((w.setCell ⟨a, i, none⟩ v).setCells a (i + 1) vs).heap.size = _
    rw [size_sets a vs (i + 1)]
    simp [World.setCell]
/-- WHAT A BLOCK'S ROUNDS KEEP beside: the words, the state, the filled bytes. -/
structure OfN (w W : World) (P g X g3 N : Nat) (pl wl sl : List Nat) (F : List Int) (T24 T44 T45 : TypeId) : Prop where
  m : OfM w W w.heap.size P (P + 1) g Dg.K pl T24 T44 T45
  x : WX W X T45 wl
  s : WX W (X + 1) T44 sl
  r : RB W W.heap.size (some ⟨g3, 0, none⟩) N F
  h1 : P + 1 < X
  h2 : g < X
  h3 : w.heap.size < P
  h4 : P + 1 < g3
  h5 : g3 < X
section
variable {w W : World} {P g X g3 N : Nat} {pl wl sl : List Nat} {F : List Int} {T24 T44 T45 : TypeId}
theorem OfN.drewN (h : OfN w W P g X g3 N pl wl sl F T24 T44 T45) (n : Nat) : OfN w (W.drewN n) P g X g3 N pl wl sl F T24 T44 T45 :=
  { h with
    m := h.m.drewN n
    x := BX.drewN h.x n
    s := BX.drewN h.s n
    r := h.r.drewN n }
theorem OfN.sets (h : OfN w W P g X g3 N pl wl sl F T24 T44 T45) {sl' : List Nat} (hl : sl'.length = sl.length) : OfN w (W.setCells (X + 1) 0 (sl'.map vw)) P g X g3 N pl wl sl' F T24 T44 T45 :=
  have := h.h1; have := h.h2; have := h.h3; have := h.h5
  { h with
    m := OfM.asides (W := W) (by omega) (by omega) (by omega) (by omega) (by omega) _ 0 h.m
    x := BX.asides (w := W) (by omega) _ 0 h.x
    s := WX.sets h.s hl
    r := by rw [size_sets]; exact RB.asides (w := W) (by omega) _ 0 h.r }
theorem OfN.setp (h : OfN w W P g X g3 N pl wl sl F T24 T44 T45) (i x : Nat) : OfN w (W.setCell ⟨P, i, none⟩ (.int .u32 x)) P g X g3 N (pl.set i x) wl sl F T24 T44 T45 :=
  have := h.h1; have := h.h2; have := h.h3; have := h.h4; have := h.h5
  { h with
    m := h.m.setp i x
    x := BX.other h.x (by omega) _
    s := BX.other h.s (by omega) _
    r := by rw [show (W.setCell ⟨P, i, none⟩ (.int .u32 x)).heap.size = W.heap.size from by simp [World.setCell]]; exact h.r.aside (by omega) _ }
end
end Go.Proofs.YtfggknplekiaoaaDoor
