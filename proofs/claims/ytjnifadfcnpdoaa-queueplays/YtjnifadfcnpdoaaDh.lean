/- The document's Bump. -/
import Derived.Test.YtjnifadfcnpdoaaDg
import Derived.Test.YtjnifadfcnpdoaaIn
import Derived.Test.YtjnifadfcnpdoaaBmp
namespace Go.Proofs.Ytjnifadfcnpdoaa
open Go.RowKit Go.Maps
set_option linter.unusedVariables false
set_option linter.unusedSimpArgs false
set_option maxRecDepth 100000
set_option maxHeartbeats 2000000 in
theorem has36 {W : World} {a : Option Addr} {c : Nat} {xs : List Int} (h1 : Iw W a xs) (h8 : xs.length ≤ 1048576) (v : Int) :
    Calls Try.prog 36 #[.slice a xs.length c, .int .i64 v] W fun e w' => e = .returned (.bool (decide (v ∈ xs))) ∧ w' = W := by
  have hsh : Hid (xs.length = 0) ∨ ∃ b' off, a = some ⟨b', off, none⟩ := by
    rcases Nat.eq_zero_or_pos xs.length with h | h
    · exact .inl h
    · exact .inr (h1.blk h)
  have H1 := hid (fun (b off : Nat) (e : a = some ⟨b, off, none⟩) (k : Nat) (hk : k < xs.length) => (e ▸ h1 : Iw W (some ⟨b, off, none⟩) xs).at hk)
  obtain ⟨t, ht⟩ : ∃ t, xs.length = t := ⟨_, rfl⟩
  have HT := hid ht
  obtain ⟨D, hD⟩ : ∃ D, decide (v ∈ xs) = D := ⟨_, rfl⟩
  have HD := hid hD
  rw [ht] at h8 hsh ⊢
  rw [hD]
  clear h1 ht hD
  go_enter Try.func36, Try.ntmps36
  go_wp2
  rcases hsh with Z | ⟨b, off, hb⟩
  case' inr => subst hb
  all_goals
    go_loopw [5] (fun i wr => ∃ k : Nat, k ≤ t ∧ i = .int .i64 (k : Nat) ∧ Hid (∀ j, j < k → xs.getD j 0 ≠ v) ∧ wr = W) (fun i _ => t - (intOf i).toNat)
    case atStart => exact ⟨0, Nat.zero_le _, rfl, hid (fun j h => by omega), rfl⟩
    case round =>
      obtain ⟨k, hkt, rfl, HR, hw⟩ := hrel
      rw [hw]
      clear hw
      by_cases hlt : k < t
      · first
          | (exfalso; have := Z.out; omega)
          | (have hlt' : (k : Int) < t := by omega
             have hwk : wrap64 ((k : Int) + 1) = (k : Int) + 1 := by unfold wrap64; omega
             have hk1 : k < xs.length := by rw [HT.out]; exact hlt
             have x1 := H1.out b off rfl k hk1
             by_cases he : xs.getD k 0 = v
             · have hE := hid (show D = true from HD.out ▸ decide_eq_true (by rw [← he, List.getD_eq_getElem?_getD, List.getElem?_eq_getElem hk1]; exact List.getElem_mem hk1))
               rw [he] at x1
               have hb : (v == v) = true := by simp
               clear he hk1
               go_wp2
               go_ret
               exact ⟨by rw [hE.out]; rfl, rfl⟩
             · have HN := hid (show ∀ j, j < k + 1 → xs.getD j 0 ≠ v from fun j h => by
                 by_cases e : j = k
                 · rw [e]; exact he
                 · exact HR.out j (by omega))
               generalize xs.getD k 0 = x at *
               have hb : (x == v) = false := by simpa using he
               clear he hk1
               go_wp2_with (fail)
               exact ⟨⟨k + 1, hlt, by first | rfl | (rw [hwk]; rfl), HN, by first | trivial | rfl⟩, by first | (simp only [intOf]; exact meas hlt) | (rw [hwk]; simp only [intOf]; exact meas hlt)⟩)
      · have hge : ¬ (k : Int) < t := by omega
        have hE := hid (show D = false from HD.out ▸ decide_eq_false (fun hm => by
          obtain ⟨j, hj, e⟩ := List.mem_iff_getElem.1 hm
          refine HR.out j (by rw [HT.out] at hj; omega) ?_
          rw [List.getD_eq_getElem?_getD, List.getElem?_eq_getElem hj, e]; rfl))
        clear HR
        go_wp2
        go_ret
        exact ⟨by rw [hE.out]; rfl, rfl⟩
theorem Fq.lt {Q : Nat → Prop} {W W' : World} (h : Fq (fun g => Q g ∧ g < W.heap.size) W W') : Fq Q W W' := ⟨h.os, h.tape, h.output, h.size, fun g o hg hq => h.block g o hg ⟨hq, lt_of_blk hg⟩⟩
abbrev Fd (D : Da) (W W' : World) : Prop := Fq (fun g => g ≠ D.qb ∧ g ≠ D.gs) W W'
theorem gone_snoc {l : List Int} {L : List Nat} {k : Nat} (hk : k < L.length) : Qp.gone l (L.take (k + 1)) = Qp.gone l (L.take k) ++ (if Qp.inL l (L.getD k 0) then [L.getD k 0] else []) := by
  rw [Qp.take_snoc L hk]
  unfold Qp.gone
  rw [List.filter_append]
  congr 1
  by_cases h : Qp.inL l (L.getD k 0) = true
  · rw [if_pos h]; simp only [List.filter_cons, List.filter_nil]; rw [if_pos h]
  · rw [if_neg h]; simp only [List.filter_cons, List.filter_nil]; rw [if_neg h]
theorem stay_snoc {l : List Int} {L : List Nat} {k : Nat} (hk : k < L.length) : Qp.stay l (L.take (k + 1)) = Qp.stay l (L.take k) ++ (if Qp.inL l (L.getD k 0) then [] else [L.getD k 0]) := by
  rw [Qp.take_snoc L hk]
  unfold Qp.stay
  rw [List.filter_append]
  congr 1
  cases h : Qp.inL l (L.getD k 0)
  · rw [if_neg (by simp)]; simp only [List.filter_cons, List.filter_nil]; rw [h]; rfl
  · rw [if_pos rfl]; simp only [List.filter_cons, List.filter_nil]; rw [h]; rfl
/-- While the row is gone through: what stays and what goes. -/
structure BI (D : Da) (n : Nat) (L : List Nat) (st : List Int) (m1 s : Int) (l : List Int) (W : World) (k : Nat) (so : Option Addr) (sc ms : Nat) (go : Option Addr) (gc mg : Nat) (w : World) : Prop where
  blk : w.heap[D.qb]? = some (.cells #[.slice D.aR n D.cR, .slice (some ⟨D.gs, 0, none⟩) (n + 1) D.cs, .int .i64 m1] 56 (0, 0))
  rs : w.ownsRow 0 3 1 (.slice D.aR n D.cR) n (inn L)
  ss : w.ownsRow 0 2 1 (.slice (some ⟨D.gs, 0, none⟩) (n + 1) D.cs) (n + 1) (iss (Qp.sts st s (Qp.gone l (L.take k))))
  rso : w.ownsRow W.heap.size 3 1 (.slice so ms sc) ms (inn (Qp.stay l (L.take k)))
  rgo : w.ownsRow W.heap.size 3 1 (.slice go mg gc) mg (inn (Qp.gone l (L.take k)))
  ne : ∀ g, (Value.slice so ms sc).ownBlock = some g → (Value.slice go mg gc).ownBlock ≠ some g
  fr : Fd D W w
  old : ∀ x, D.aR = some x → x.block < W.heap.size
  sl : st.length = n + 1
  ll : L.length = n
  rg : ∀ v ∈ L, 1 ≤ v ∧ v ≤ n
  lt1 : D.qb < W.heap.size
  lt2 : D.gs < W.heap.size
  mx : n ≤ 1048576
section
variable {D : Da} {n : Nat} {L : List Nat} {st : List Int} {mv : Nat} {m1 s : Int} {l : List Int} {W w : World} {k : Nat} {so : Option Addr} {sc ms : Nat} {go : Option Addr} {gc mg : Nat}
theorem filter_len (p : Nat → Bool) (L : List Nat) (k : Nat) : ((L.take k).filter p).length ≤ L.length := Nat.le_trans (List.length_filter_le _ _) (by rw [List.length_take]; omega)
theorem BI.row (H : BI D n L st m1 s l W k so sc ms go gc mg w) {W' : World} {Q : Nat → Prop} (f : Fq Q w W') (hq : ∀ x, D.aR = some x → Q x.block) : W'.ownsRow 0 3 1 (.slice D.aR n D.cR) n (inn L) :=
  own_fq H.rs f (fun g e => by
    cases ha : D.aR with
    | none => rw [ha] at e; cases e
    | some x => rw [ha] at e; cases e; exact hq x ha)
theorem BI.below {W' : World} (H : BI D n L st m1 s l W k so sc ms go gc mg w) (h : Below w.heap.size w W') : BI D n L st m1 s l W k so sc ms go gc mg W' :=
  ⟨(h.block _ (lt_of_blk H.blk)).trans H.blk, own_below H.rs h, own_below H.ss h, own_below H.rso h, own_below H.rgo h, H.ne, H.fr.trans (Fq.of_below h), H.old, H.sl, H.ll, H.rg, H.lt1, H.lt2, H.mx⟩
theorem own_lo {W : World} {base e n : Nat} {v : Value} {xs : List Value} (h : W.ownsRow base e 1 v n xs) {g : Nat} (hg : v.ownBlock = some g) : base ≤ g ∧ g < W.heap.size := by
  obtain ⟨h1, c, h2⟩ := own_blk h hg
  exact ⟨h1, lt_of_blk h2⟩
/-- One more that stays. -/
theorem BI.stay (H : BI D n L st m1 s l W k so sc ms go gc mg w) (hk : k < n) {v : Nat} (hv : L.getD k 0 = v) (hin : Qp.inL l v = false) {z : Nat} (hz : w.heap.size = z) :
    ∃ (o2 : Option Addr) (c2 : Nat) (B : World), (Builtin.append_ #[32, 32] 32 #[.slice so ms sc, .slice (some ⟨z, 0, none⟩) 1 1]).run Try.prog (w.alloc (.cells #[.int .i64 (v : Int)] 3)) = .ok (.slice o2 (ms + 1) c2) B ∧ BI D n L st m1 s l W (k + 1) o2 c2 (ms + 1) go gc mg B := by
  subst hz
  have bx := below_box w (.cells #[.int .i64 (v : Int)] 3)
  have gx := heap_alloc_new w (.cells #[.int .i64 (v : Int)] 3)
  have HX := H.below bx
  have hs := H.fr.size
  have sx := bx.size
  have hx0 := row_cell gx 0
  have hlm := inn_len H.rso
  have hfl := filter_len (fun v => !Qp.inL l v) L k
  have hmx := H.mx
  have hll := H.ll
  have hms : ms ≤ n := by rw [← hlm, ← hll]; exact hfl
  generalize w.alloc (.cells #[.int .i64 (v : Int)] 3) = X at *
  obtain ⟨o2, c2, B, r, wo, f, b, hg⟩ := appX (t := 32) Try.underlying32 info3 rfl (by decide) HX.rso (by omega) (a := w.heap.size) (off := 0) (m := 1) (c := 1) (ys := inn [v]) rfl (fun k hk => by
    obtain rfl : k = 0 := by omega
    exact hx0) (inn_one' _) (by omega)
  have e : inn (Qp.stay l (L.take k)) ++ inn [v] = inn (Qp.stay l (L.take (k + 1))) := by
    rw [stay_snoc (by omega), hv, hin]; simp [inn]
  have e2 : Qp.gone l (L.take (k + 1)) = Qp.gone l (L.take k) := by
    rw [gone_snoc (by omega), hv, hin]; simp
  rw [e] at wo
  have hso : ∀ g, (Value.slice so ms sc).ownBlock = some g → W.heap.size ≤ g := fun g hg => (own_lo HX.rso hg).1
  have n1 : ∀ g, g < W.heap.size → (Value.slice so ms sc).ownBlock ≠ some g := fun g hl e => by have := hso g e; omega
  have hgo : B.ownsRow W.heap.size 3 1 (.slice go mg gc) mg (inn (Qp.gone l (L.take k))) := own_fq HX.rgo f (fun g e e2 => HX.ne g e2 e)
  refine ⟨o2, c2, B, r, f.block _ _ HX.blk (n1 _ H.lt1), HX.row f (fun x hx => n1 _ (H.old x hx)), by rw [e2]; exact own_fq HX.ss f (fun g e => by cases e; exact n1 _ H.lt2), wo, by rw [e2]; exact hgo, fun g h1 h2 => ?_, Fq.lt ((HX.fr.mono (fun g hg => hg.1)).trans (f.mono (fun g hg => n1 g hg.2))), H.old, H.sl, H.ll, H.rg, H.lt1, H.lt2, H.mx⟩
  · rcases hg g h1 with h | h
    · exact HX.ne g h h2
    · have := (own_lo HX.rgo h2).2
      omega
/-- One more that goes: its stamp is turned too. -/
theorem BI.gone (H : BI D n L st m1 s l W k so sc ms go gc mg w) (hk : k < n) {v : Nat} (hv : L.getD k 0 = v) (hin : Qp.inL l v = true) {z : Nat} (hz : w.heap.size = z) :
    ∃ (o2 : Option Addr) (c2 : Nat) (B : World), (Builtin.append_ #[32, 32] 32 #[.slice go mg gc, .slice (some ⟨z, 0, none⟩) 1 1]).run Try.prog (w.alloc (.cells #[.int .i64 (v : Int)] 3)) = .ok (.slice o2 (mg + 1) c2) B
      ∧ B.cell? ⟨D.qb, 0, none⟩ = some (.slice D.aR n D.cR) ∧ B.cell? ⟨D.qb, 1, none⟩ = some (.slice (some ⟨D.gs, 0, none⟩) (n + 1) D.cs) ∧ B.cell? ⟨D.qb, 2, none⟩ = some (.int .i64 m1) ∧ (∃ y, B.cell? ⟨D.gs, v, none⟩ = some (.int .i64 y)) ∧ B.frozen? ⟨D.gs, v, none⟩ = false
      ∧ ∀ q : Nat, BI D n L st m1 s l W (k + 1) so sc ms o2 c2 (mg + 1) ((B.drewN q).setCell ⟨D.gs, v, none⟩ (.int .i64 s)) ∧ BI D n L st m1 s l W (k + 1) so sc ms o2 c2 (mg + 1) ((B.setCell ⟨D.gs, v, none⟩ (.int .i64 s)).drewN q) := by
  subst hz
  have bx := below_box w (.cells #[.int .i64 (v : Int)] 3)
  have gx := heap_alloc_new w (.cells #[.int .i64 (v : Int)] 3)
  have HX := H.below bx
  have hs := H.fr.size
  have sx := bx.size
  have hx0 := row_cell gx 0
  have hlm := inn_len H.rgo
  have hfl := filter_len (fun v => Qp.inL l v) L k
  have hmx := H.mx
  have hll := H.ll
  have hms : mg ≤ n := by rw [← hlm, ← hll]; exact hfl
  generalize w.alloc (.cells #[.int .i64 (v : Int)] 3) = X at *
  obtain ⟨o2, c2, B, r, wo, f, b, hg⟩ := appX (t := 32) Try.underlying32 info3 rfl (by decide) HX.rgo (by omega) (a := w.heap.size) (off := 0) (m := 1) (c := 1) (ys := inn [v]) rfl (fun k hk => by
    obtain rfl : k = 0 := by omega
    exact hx0) (inn_one' _) (by omega)
  have e2 : Qp.stay l (L.take (k + 1)) = Qp.stay l (L.take k) := by
    rw [stay_snoc (by omega), hv, hin]; simp
  have e1 : Qp.gone l (L.take (k + 1)) = Qp.gone l (L.take k) ++ [v] := by
    rw [gone_snoc (by omega), hv, hin]; simp
  have e : inn (Qp.gone l (L.take k)) ++ inn [v] = inn (Qp.gone l (L.take (k + 1))) := by
    rw [e1]; simp [inn]
  rw [e] at wo
  have hso : ∀ g, (Value.slice go mg gc).ownBlock = some g → W.heap.size ≤ g := fun g hg => (own_lo HX.rgo hg).1
  have n1 : ∀ g, g < W.heap.size → (Value.slice go mg gc).ownBlock ≠ some g := fun g hl e => by have := hso g e; omega
  have hst : B.ownsRow W.heap.size 3 1 (.slice so ms sc) ms (inn (Qp.stay l (L.take k))) := own_fq HX.rso f (fun g e e2 => HX.ne g e e2)
  have hss : B.ownsRow 0 2 1 (.slice (some ⟨D.gs, 0, none⟩) (n + 1) D.cs) (n + 1) (iss (Qp.sts st s (Qp.gone l (L.take k)))) := own_fq HX.ss f (fun g e => by cases e; exact n1 _ H.lt2)
  have hb : B.heap[D.qb]? = some (.cells #[.slice D.aR n D.cR, .slice (some ⟨D.gs, 0, none⟩) (n + 1) D.cs, .int .i64 m1] 56 (0, 0)) := f.block _ _ HX.blk (n1 _ H.lt1)
  have hr := HX.row f (fun x hx => n1 _ (H.old x hx))
  have hvn : v ≤ n := by
    have := H.rg v (by rw [← hv, List.getD_eq_getElem?_getD, List.getElem?_eq_getElem (by omega)]; exact List.getElem_mem _)
    exact this.2
  have hc := own_cell hss (k := v) (by omega)
  have hlen : (Qp.sts st s (Qp.gone l (L.take k))).length = n + 1 := iss_len hss
  obtain ⟨_, cS, hS⟩ := own_blk hss rfl
  have hne : D.qb ≠ D.gs := ty_ne hb hS (by decide)
  have hS1 : ∀ (C : World), Below B.heap.size B C → BI D n L st m1 s l W (k + 1) so sc ms o2 c2 (mg + 1) (C.setCell ⟨D.gs, v, none⟩ (.int .i64 s)) := fun C hC => by
    have hnew : ∀ (base e n' : Nat) (va : Value) (xs : List Value), C.ownsRow base e 1 va n' xs → (e ≠ 2) → (C.setCell ⟨D.gs, v, none⟩ (.int .i64 s)).ownsRow base e 1 va n' xs := fun base e n' va xs h he =>
      own_keep h (fun e' => by
        obtain ⟨_, c5, h5⟩ := own_blk h e'
        have h6 := (hC.block _ (lt_of_blk hS)).trans hS
        exact ty_ne h5 h6 he rfl) _
    refine ⟨?_, hnew _ _ _ _ _ (own_below hr hC) (by decide), ?_, by rw [e2]; exact hnew _ _ _ _ _ (own_below hst hC) (by decide), hnew _ _ _ _ _ (own_below wo hC) (by decide), fun g h1 h2 => ?_, ?_, H.old, H.sl, H.ll, H.rg, H.lt1, H.lt2, H.mx⟩
    · rw [heap_other _ _ hne]
      exact (hC.block _ (lt_of_blk hb)).trans hb
    · have := own_setc (own_below hss hC) v (.int .i64 s)
      rw [iss_set] at this
      rw [e1, Qp.sts_snoc]
      exact this
    · rcases hg g h2 with h | h
      · exact HX.ne g h1 h
      · have := (own_lo HX.rso h1).2
        omega
    · exact (Fq.lt (((HX.fr.mono (fun g hg => hg.1)).trans (f.mono (fun g hg => n1 g hg.2))).trans (Fq.of_below hC))).trans (Fq.set C _ (fun h => h.2 rfl))
  refine ⟨o2, c2, B, r, row_cell hb 0, row_cell hb 1, row_cell hb 2, ⟨_, by rw [hc.1, iss_at (by omega)]⟩, hc.2, fun q => ⟨hS1 _ (Drawn.below ⟨q, rfl⟩), (hS1 B (Below.refl _ _)).below (Drawn.below ⟨q, rfl⟩)⟩⟩
end
end Go.Proofs.Ytjnifadfcnpdoaa
