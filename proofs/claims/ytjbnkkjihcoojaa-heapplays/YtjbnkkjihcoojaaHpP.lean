/- Variables by scores, plainly: what comes before, rows in order, a heap's order. -/
namespace Hpp
/-- One comes before another one. -/
def bef (s : List Int) (a b : Nat) : Prop := s.getD b 0 < s.getD a 0 ∨ (s.getD a 0 = s.getD b 0 ∧ a < b)
instance (s : List Int) (a b : Nat) : Decidable (bef s a b) := by unfold bef; infer_instance
theorem bef_irr (s : List Int) (a : Nat) : ¬ bef s a a := by unfold bef; omega
theorem bef_asym {s : List Int} {a b : Nat} (h : bef s a b) : ¬ bef s b a := by unfold bef at *; omega
theorem bef_trans {s : List Int} {a b c : Nat} (h : bef s a b) (k : bef s b c) : bef s a c := by unfold bef at *; omega
theorem bef_tot {s : List Int} {a b : Nat} (h : a ≠ b) : bef s a b ∨ bef s b a := by unfold bef; omega
theorem not_trans {s : List Int} {a b c : Nat} (h : ¬ bef s b a) (k : ¬ bef s c b) : ¬ bef s c a := by unfold bef at *; omega
theorem of_not {s : List Int} {a b : Nat} (h : a ≠ b) (k : ¬ bef s a b) : bef s b a := (bef_tot h).resolve_left k
/-- A row's k-th. -/
abbrev at' (vs : List Nat) (k : Nat) : Nat := vs.getD k 0
def Ok (s : List Int) (vs : List Nat) (k : Nat) : Prop := ¬ bef s (vs.getD k 0) (vs.getD ((k - 1) / 2) 0)
/-- The heap's order, of the first m, from lo on. -/
def HO (s : List Int) (lo m : Nat) (vs : List Nat) : Prop := ∀ k, 1 ≤ k → k < m → lo ≤ (k - 1) / 2 → Ok s vs k
/-- .. but at i, on the way down. -/
def Dn (s : List Int) (lo m i0 i : Nat) (vs : List Nat) : Prop :=
  (∀ k, 1 ≤ k → k < m → lo ≤ (k - 1) / 2 → (k - 1) / 2 ≠ i → (k ≠ i ∨ i ≠ i0) → Ok s vs k) ∧
  (∀ k, 1 ≤ k → k < m → (k - 1) / 2 = i → 1 ≤ i → lo ≤ (i - 1) / 2 → ¬ bef s (vs.getD k 0) (vs.getD ((i - 1) / 2) 0))
/-- .. but at j, on the way up. -/
def Up (s : List Int) (m j : Nat) (vs : List Nat) : Prop :=
  (∀ k, 1 ≤ k → k < m → k ≠ j → Ok s vs k) ∧
  (∀ k, 1 ≤ k → k < m → (k - 1) / 2 = j → 1 ≤ j → ¬ bef s (vs.getD k 0) (vs.getD ((j - 1) / 2) 0))
def swp (vs : List Nat) (i j : Nat) : List Nat := (vs.set i (vs.getD j 0)).set j (vs.getD i 0)
theorem swp_len (vs : List Nat) (i j : Nat) : (swp vs i j).length = vs.length := by simp [swp]
theorem swp_get {vs : List Nat} {i j : Nat} (hi : i < vs.length) (hj : j < vs.length) (k : Nat) : (swp vs i j).getD k 0 = if k = j then vs.getD i 0 else if k = i then vs.getD j 0 else vs.getD k 0 := by
  unfold swp
  simp only [List.getD_eq_getElem?_getD, List.getElem?_set, List.length_set]
  by_cases h1 : k = j
  · subst h1; rw [if_pos rfl, if_pos hj, if_pos rfl]; rfl
  · rw [if_neg (fun e => h1 e.symm), if_neg h1]
    by_cases h2 : k = i
    · subst h2; rw [if_pos rfl, if_pos hi, if_pos rfl]; rfl
    · rw [if_neg (fun e => h2 e.symm), if_neg h2]
theorem swp_perm {vs : List Nat} {i j : Nat} (hi : i < vs.length) (hj : j < vs.length) : (swp vs i j).Perm vs := by
  have := List.set_set_perm (as := vs) hi hj
  unfold swp
  simp only [List.getD_eq_getElem?_getD, List.getElem?_eq_getElem hi, List.getElem?_eq_getElem hj, Option.getD_some]
  exact this
theorem swp_same {vs : List Nat} {i : Nat} (hi : i < vs.length) : swp vs i i = vs := by
  unfold swp
  simp [List.getD_eq_getElem?_getD, List.getElem?_eq_getElem hi]

theorem Up.step {s : List Int} {m j : Nat} {vs : List Nat} (h : Up s m j vs) (hj : 1 ≤ j) (hjm : j < m) (hm : m ≤ vs.length) (hb : bef s (vs.getD j 0) (vs.getD ((j - 1) / 2) 0)) :
    Up s m ((j - 1) / 2) (swp vs ((j - 1) / 2) j) := by
  obtain ⟨i, hi⟩ : ∃ i, i = (j - 1) / 2 := ⟨_, rfl⟩
  rw [← hi] at hb ⊢
  have hil : i < vs.length := by omega
  have hjl : j < vs.length := by omega
  have G := fun k => swp_get hil hjl k
  refine ⟨fun k h1 h2 h3 => ?_, fun k h1 h2 h3 h4 => ?_⟩
  · unfold Ok
    rw [G, G]
    by_cases e : k = j
    · subst e
      rw [if_pos rfl, ← hi, if_neg (by omega), if_pos rfl]
      exact bef_asym hb
    · rw [if_neg e, if_neg h3]
      by_cases e2 : (k - 1) / 2 = j
      · rw [if_pos e2, hi]
        exact h.2 k h1 h2 e2 hj
      · rw [if_neg e2]
        have ho := h.1 k h1 h2 e
        unfold Ok at ho
        by_cases e3 : (k - 1) / 2 = i
        · rw [if_pos e3]
          rw [e3] at ho
          exact fun hk => ho (bef_trans hk hb)
        · rw [if_neg e3]; exact ho
  · rw [G, G, if_neg (by omega : ¬ (i - 1) / 2 = j), if_neg (by omega : ¬ (i - 1) / 2 = i)]
    have ho := h.1 i h4 (by omega) (by omega)
    unfold Ok at ho
    by_cases e : k = j
    · rw [if_pos e]; exact ho
    · rw [if_neg e, if_neg (by omega)]
      have hk := h.1 k h1 h2 e
      unfold Ok at hk
      rw [h3] at hk
      exact not_trans ho hk
theorem Up.done {s : List Int} {m j : Nat} {vs : List Nat} (h : Up s m j vs) (hb : j = 0 ∨ ¬ bef s (vs.getD j 0) (vs.getD ((j - 1) / 2) 0)) : HO s 0 m vs := by
  intro k h1 h2 _
  by_cases e : k = j
  · subst e
    rcases hb with hb | hb
    · omega
    · exact hb
  · exact h.1 k h1 h2 e
theorem Up.push {s : List Int} {vs : List Nat} (h : HO s 0 vs.length vs) (u : Nat) : Up s (vs ++ [u]).length vs.length (vs ++ [u]) := by
  have hl : (vs ++ [u]).length = vs.length + 1 := by simp
  have G : ∀ k, k < vs.length → (vs ++ [u]).getD k 0 = vs.getD k 0 := fun k hk => by simp [List.getD_eq_getElem?_getD, List.getElem?_append_left hk]
  refine ⟨fun k h1 h2 h3 => ?_, fun k h1 h2 h3 h4 => by omega⟩
  unfold Ok
  rw [G k (by omega), G _ (by omega)]
  exact h k h1 (by omega) (by omega)

theorem Dn.step {s : List Int} {lo m i0 i j : Nat} {vs : List Nat} (h : Dn s lo m i0 i vs) (hlo : lo ≤ i) (hi0 : i0 ≤ i) (hj : 1 ≤ j) (hjm : j < m) (hji : (j - 1) / 2 = i) (hm : m ≤ vs.length)
    (hb : bef s (vs.getD j 0) (vs.getD i 0)) (ho : ∀ k, 1 ≤ k → k < m → (k - 1) / 2 = i → ¬ bef s (vs.getD k 0) (vs.getD j 0)) : Dn s lo m i0 j (swp vs i j) := by
  have hil : i < vs.length := by omega
  have hjl : j < vs.length := by omega
  have G := fun k => swp_get hil hjl k
  refine ⟨fun k h1 h2 h3 h4 h5 => ?_, fun k h1 h2 h3 h4 h5 => ?_⟩
  · unfold Ok
    rw [G, G, if_neg h4]
    by_cases e : k = j
    · subst e
      rw [if_pos rfl, if_pos hji]
      exact bef_asym hb
    · rw [if_neg e]
      by_cases e2 : k = i
      · subst e2
        rw [if_pos rfl, if_neg (by omega)]
        exact h.2 j hj hjm hji h1 h3
      · rw [if_neg e2]
        by_cases e3 : (k - 1) / 2 = i
        · rw [if_pos e3]
          exact ho k h1 h2 e3
        · rw [if_neg e3]
          exact h.1 k h1 h2 h3 e3 (.inl e2)
  · rw [G, G, if_neg (by omega), if_neg (by omega), hji, if_neg (by omega), if_pos rfl]
    have := h.1 k h1 h2 (by omega) (by omega) (.inl (by omega))
    unfold Ok at this
    rw [h3] at this
    exact this
theorem Dn.moved {s : List Int} {lo m i0 i : Nat} {vs : List Nat} (h : Dn s lo m i0 i vs) (hne : i ≠ i0) (ho : ∀ k, 1 ≤ k → k < m → (k - 1) / 2 = i → ¬ bef s (vs.getD k 0) (vs.getD i 0)) : HO s lo m vs := by
  intro k h1 h2 h3
  by_cases e : (k - 1) / 2 = i
  · unfold Ok; rw [e]; exact ho k h1 h2 e
  · exact h.1 k h1 h2 h3 e (.inr hne)
theorem Dn.stayed {s : List Int} {m i : Nat} {vs : List Nat} (h : Dn s 0 m i i vs) (ho : ∀ k, 1 ≤ k → k < m → (k - 1) / 2 = i → ¬ bef s (vs.getD k 0) (vs.getD i 0)) : Up s m i vs := by
  refine ⟨fun k h1 h2 h3 => ?_, fun k h1 h2 h3 h4 => h.2 k h1 h2 h3 h4 (Nat.zero_le _)⟩
  by_cases e : (k - 1) / 2 = i
  · unfold Ok; rw [e]; exact ho k h1 h2 e
  · exact h.1 k h1 h2 (Nat.zero_le _) e (.inl h3)
theorem Dn.low {s : List Int} {m i : Nat} {vs : List Nat} (h : Dn s i m i i vs) (ho : ∀ k, 1 ≤ k → k < m → (k - 1) / 2 = i → ¬ bef s (vs.getD k 0) (vs.getD i 0)) : HO s i m vs := by
  intro k h1 h2 h3
  by_cases e : (k - 1) / 2 = i
  · unfold Ok; rw [e]; exact ho k h1 h2 e
  · exact h.1 k h1 h2 h3 e (.inl (by omega))
/-- The last one put in the place of another one. -/
theorem Dn.cut {s : List Int} {n i : Nat} {vs : List Nat} (h : HO s 0 vs.length vs) (hn : vs.length = n + 1) (hi : i < n) : Dn s 0 n i i (swp vs i n) := by
  have G := fun k => swp_get (vs := vs) (i := i) (j := n) (by omega) (by omega) k
  refine ⟨fun k h1 h2 h3 h4 h5 => ?_, fun k h1 h2 h3 h4 h5 => ?_⟩
  · unfold Ok
    rw [G, G, if_neg (by omega), if_neg (by omega), if_neg (by omega), if_neg (by omega)]
    exact h k h1 (by omega) (by omega)
  · rw [G, G, if_neg (by omega), if_neg (by omega), if_neg (by omega), if_neg (by omega)]
    have a := h k h1 (by omega) (by omega)
    have b := h i h4 (by omega) (by omega)
    unfold Ok at a b
    rw [h3] at a
    exact not_trans b a
theorem HO.cut {s : List Int} {n : Nat} {vs : List Nat} (h : HO s 0 vs.length vs) (hn : vs.length = n + 1) : HO s 0 n vs := fun k h1 h2 h3 => h k h1 (by omega) h3
theorem bef_set {s : List Int} {u a b : Nat} (x : Int) (ha : a ≠ u) (hb : b ≠ u) : bef (s.set u x) a b ↔ bef s a b := by
  unfold bef
  have G : ∀ k, k ≠ u → (s.set u x).getD k 0 = s.getD k 0 := fun k hk => by simp [List.getD_eq_getElem?_getD, List.getElem?_set_ne (fun e => hk e.symm)]
  rw [G a ha, G b hb]
/-- A score turned. -/
theorem Dn.fix {s : List Int} {vs : List Nat} {i : Nat} (h : HO s 0 vs.length vs) (hi : i < vs.length) (hd : ∀ k, k < vs.length → vs.getD k 0 = vs.getD i 0 → k = i) (x : Int) : Dn (s.set (vs.getD i 0) x) 0 vs.length i i vs := by
  refine ⟨fun k h1 h2 h3 h4 h5 => ?_, fun k h1 h2 h3 h4 h5 => ?_⟩
  · unfold Ok
    rw [bef_set x (fun e => by have := hd k h2 e; omega) (fun e => by have := hd _ (by omega) e; omega)]
    exact h k h1 h2 h3
  · rw [bef_set x (fun e => by have := hd k h2 e; omega) (fun e => by have := hd _ (by omega) e; omega)]
    have a := h k h1 h2 (by omega)
    have b := h i h4 hi (by omega)
    unfold Ok at a b
    rw [h3] at a
    exact not_trans b a
theorem Dn.init {s : List Int} {m i : Nat} {vs : List Nat} (h : HO s (i + 1) m vs) : Dn s i m i i vs :=
  ⟨fun k h1 h2 h3 h4 _ => h k h1 h2 (by omega), fun k _ _ _ h4 h5 => by omega⟩
theorem HO.half (s : List Int) (n : Nat) (vs : List Nat) : HO s (n / 2) n vs := fun k h1 h2 h3 => by omega
/-- The first one comes before all others. -/
theorem HO.min {s : List Int} {m : Nat} {vs : List Nat} (h : HO s 0 m vs) : ∀ k, k < m → ¬ bef s (vs.getD k 0) (vs.getD 0 0) := by
  intro k
  induction k using Nat.strongRecOn with
  | ind k ih =>
    intro hk
    rcases Nat.eq_zero_or_pos k with rfl | hp
    · exact bef_irr _ _
    · exact not_trans (ih ((k - 1) / 2) (by omega) (by omega)) (h k hp hk (Nat.zero_le _))

/-! rows in order -/
abbrev Srt (s : List Int) (L : List Nat) : Prop := L.Pairwise (bef s)
def ins (s : List Int) (v : Nat) : List Nat → List Nat
  | [] => [v]
  | a :: L => if bef s a v then a :: ins s v L else v :: a :: L
theorem ins_perm (s : List Int) (v : Nat) (L : List Nat) : (ins s v L).Perm (v :: L) := by
  induction L with
  | nil => exact .refl _
  | cons a L ih =>
    unfold ins
    split
    · exact (ih.cons a).trans (.swap v a L)
    · exact .refl _
theorem ins_srt {s : List Int} {v : Nat} {L : List Nat} (h : Srt s L) (hv : v ∉ L) : Srt s (ins s v L) := by
  induction L with
  | nil => exact List.pairwise_singleton _ _
  | cons a L ih =>
    have ⟨h1, h2⟩ := List.pairwise_cons.1 h
    unfold ins
    split
    · rename_i hb
      refine List.pairwise_cons.2 ⟨fun b hm => ?_, ih h2 (fun e => hv (.tail _ e))⟩
      rcases List.mem_cons.1 ((ins_perm s v L).mem_iff.1 hm) with rfl | hm
      · exact hb
      · exact h1 b hm
    · rename_i hb
      have hb' : bef s v a := of_not (fun e => hv (e ▸ .head _)) hb
      refine List.pairwise_cons.2 ⟨fun b hm => ?_, h⟩
      rcases List.mem_cons.1 hm with rfl | hm
      · exact hb'
      · exact bef_trans hb' (h1 b hm)
/-- All of a row put in order. -/
def srt (s : List Int) (L : List Nat) : List Nat := L.foldl (fun A v => ins s v A) []
theorem fold_perm (s : List Int) (L : List Nat) : ∀ A, (L.foldl (fun A v => ins s v A) A).Perm (A ++ L) := by
  induction L with
  | nil => intro A; simp
  | cons v L ih =>
    intro A
    refine (ih (ins s v A)).trans ?_
    refine ((ins_perm s v A).append_right L).trans ?_
    exact (List.perm_middle (a := v) (l₁ := A) (l₂ := L)).symm
theorem srt_perm (s : List Int) (L : List Nat) : (srt s L).Perm L := by unfold srt; simpa using fold_perm s L []
theorem fold_srt (s : List Int) (L : List Nat) : ∀ A, Srt s A → (A ++ L).Nodup → Srt s (L.foldl (fun A v => ins s v A) A) := by
  induction L with
  | nil => intro A h _; exact h
  | cons v L ih =>
    intro A h hd
    have hd' : (v :: (A ++ L)).Nodup := (List.perm_middle (a := v) (l₁ := A) (l₂ := L)).nodup_iff.1 hd
    have hv : v ∉ A := fun e => (List.nodup_cons.1 hd').1 (List.mem_append_left _ e)
    refine ih _ (ins_srt h hv) ?_
    exact ((ins_perm s v A).append_right L).nodup_iff.2 hd'
theorem srt_srt {s : List Int} {L : List Nat} (h : L.Nodup) : Srt s (srt s L) := fold_srt s L [] .nil (by simpa using h)
/-- There is one row in order alone. -/
theorem srt_uniq {s : List Int} : ∀ {L M : List Nat}, Srt s L → Srt s M → L.Perm M → L = M := by
  intro L
  induction L with
  | nil => intro M _ _ h; exact h.nil_eq
  | cons a L ih =>
    intro M hL hM h
    cases M with
    | nil => exact absurd h.length_eq (by simp)
    | cons b M =>
      have ⟨h1, h2⟩ := List.pairwise_cons.1 hL
      have ⟨k1, k2⟩ := List.pairwise_cons.1 hM
      have e : a = b := by
        rcases List.mem_cons.1 (h.mem_iff.1 (.head _)) with e | e
        · exact e
        · rcases List.mem_cons.1 (h.mem_iff.2 (.head M)) with e' | e'
          · exact e'.symm
          · exact absurd (h1 b e') (bef_asym (k1 a e))
      subst e
      rw [ih h2 k2 (h.cons_inv)]
theorem Srt.nodup {s : List Int} {L : List Nat} (h : Srt s L) : L.Nodup := h.imp (fun {a b} hb e => by subst e; exact bef_irr _ _ hb)
theorem Srt.erase {s : List Int} {L : List Nat} (h : Srt s L) (v : Nat) : Srt s (L.erase v) := h.sublist List.erase_sublist
/-- The first in a row in order is the first of the heap. -/
theorem top_eq {s : List Int} {m v : Nat} {vs L : List Nat} (h : HO s 0 vs.length vs) (hS : Srt s (v :: L)) (hp : vs.Perm (v :: L)) (hm : vs.length = m) (h0 : 0 < m) : vs.getD 0 0 = v := by
  have hin : vs.getD 0 0 ∈ vs := by simp [List.getD_eq_getElem?_getD, List.getElem?_eq_getElem (show 0 < vs.length by omega)]
  rcases List.mem_cons.1 (hp.mem_iff.1 hin) with e | e
  · exact e
  · have hb := (List.pairwise_cons.1 hS).1 _ e
    have hv : v ∈ vs := hp.mem_iff.2 (.head _)
    obtain ⟨k, hk, hkv⟩ := List.getElem_of_mem hv
    have := h.min k hk
    rw [List.getD_eq_getElem?_getD, List.getElem?_eq_getElem hk, Option.getD_some, hkv] at this
    exact absurd hb this
theorem getD_el (vs : List Nat) {k : Nat} (hk : k < vs.length) : vs.getD k 0 = vs[k] := by rw [List.getD_eq_getElem?_getD, List.getElem?_eq_getElem hk]; rfl
/-- Where each stands. -/
structure Pl (n : Nat) (vs : List Nat) (pl : List Int) : Prop where
  len : pl.length = n
  at_ : ∀ k, k < vs.length → vs.getD k 0 < n ∧ pl.getD (vs.getD k 0) 0 = (k : Int)
  no : ∀ u, u < n → pl.getD u 0 ≠ -1 → ∃ k, k < vs.length ∧ vs.getD k 0 = u
theorem Pl.inj {n : Nat} {vs : List Nat} {pl : List Int} (h : Pl n vs pl) {k j : Nat} (hk : k < vs.length) (hj : j < vs.length) (e : vs.getD k 0 = vs.getD j 0) : k = j := by
  have a := (h.at_ k hk).2
  have b := (h.at_ j hj).2
  rw [e, b] at a
  omega
theorem setD (l : List Int) (u : Nat) (x : Int) (hu : u < l.length) (k : Nat) : (l.set u x).getD k 0 = if k = u then x else l.getD k 0 := by
  simp only [List.getD_eq_getElem?_getD, List.getElem?_set]
  by_cases e : k = u
  · subst e; rw [if_pos rfl, if_pos hu, if_pos rfl]; rfl
  · rw [if_neg (fun h => e h.symm), if_neg e]
theorem Pl.has {n : Nat} {vs : List Nat} {pl : List Int} (h : Pl n vs pl) {u : Nat} (hu : u < n) : pl.getD u 0 ≠ -1 ↔ u ∈ vs := by
  constructor
  · intro hn
    obtain ⟨k, hk, e⟩ := h.no u hu hn
    rw [← e, List.getD_eq_getElem?_getD, List.getElem?_eq_getElem hk]
    exact List.getElem_mem hk
  · intro hm
    obtain ⟨k, hk, e⟩ := List.getElem_of_mem hm
    have := (h.at_ k hk).2
    rw [getD_el vs hk, e] at this
    omega
theorem Pl.lt {n : Nat} {vs : List Nat} {pl : List Int} (h : Pl n vs pl) {u : Nat} (hu : u ∈ vs) : u < n := by
  obtain ⟨k, hk, e⟩ := List.getElem_of_mem hu
  have := (h.at_ k hk).1
  rw [List.getD_eq_getElem?_getD, List.getElem?_eq_getElem hk, Option.getD_some, e] at this
  exact this
theorem Pl.nodup {n : Nat} {vs : List Nat} {pl : List Int} (h : Pl n vs pl) : vs.Nodup := by
  rw [List.nodup_iff_pairwise_ne, List.pairwise_iff_getElem]
  intro i j hi hj hij e
  have := h.inj hi hj (by simp [List.getD_eq_getElem?_getD, List.getElem?_eq_getElem hi, List.getElem?_eq_getElem hj, e])
  omega
theorem Pl.swap {n : Nat} {vs : List Nat} {pl : List Int} (h : Pl n vs pl) {i j : Nat} (hi : i < vs.length) (hj : j < vs.length) : Pl n (swp vs i j) ((pl.set (vs.getD j 0) i).set (vs.getD i 0) j) := by
  have ⟨ai, _⟩ := h.at_ i hi
  have ⟨aj, _⟩ := h.at_ j hj
  have hl := h.len
  have S : ∀ k, ((pl.set (vs.getD j 0) i).set (vs.getD i 0) j).getD k 0 = if k = vs.getD i 0 then (j : Int) else if k = vs.getD j 0 then (i : Int) else pl.getD k 0 := fun k => by
    rw [setD _ _ _ (by rw [List.length_set]; omega), setD _ _ _ (by omega)]
  refine ⟨by simpa using hl, fun k hk => ?_, fun u hu hn => ?_⟩
  · rw [swp_len] at hk
    rw [swp_get hi hj, S]
    by_cases e1 : k = j
    · rw [if_pos e1, if_pos rfl, e1]; exact ⟨ai, rfl⟩
    · rw [if_neg e1]
      by_cases e2 : k = i
      · rw [if_pos e2, e2]
        refine ⟨aj, ?_⟩
        rw [if_neg (fun e => by have := h.inj hj hi e; omega), if_pos rfl]
      · rw [if_neg e2, if_neg (fun e => e2 (h.inj hk hi e)), if_neg (fun e => e1 (h.inj hk hj e))]
        exact h.at_ k hk
  · rw [S] at hn
    have hp := swp_perm hi hj
    have hin : u ∈ vs := by
      by_cases e1 : u = vs.getD i 0
      · rw [e1, List.getD_eq_getElem?_getD, List.getElem?_eq_getElem hi]; exact List.getElem_mem hi
      · rw [if_neg e1] at hn
        by_cases e2 : u = vs.getD j 0
        · rw [e2, List.getD_eq_getElem?_getD, List.getElem?_eq_getElem hj]; exact List.getElem_mem hj
        · rw [if_neg e2] at hn
          exact (h.has hu).1 hn
    obtain ⟨k, hk, e⟩ := List.getElem_of_mem (hp.mem_iff.2 hin)
    exact ⟨k, hk, by rw [List.getD_eq_getElem?_getD, List.getElem?_eq_getElem hk]; exact e⟩
theorem Pl.push {n : Nat} {vs : List Nat} {pl : List Int} (h : Pl n vs pl) {u : Nat} (hu : u < n) (hv : u ∉ vs) : Pl n (vs ++ [u]) (pl.set u vs.length) := by
  have hl := h.len
  have S := setD pl u (vs.length : Int) (by omega)
  have G : ∀ k, k < vs.length → (vs ++ [u]).getD k 0 = vs.getD k 0 := fun k hk => by simp [List.getD_eq_getElem?_getD, List.getElem?_append_left hk]
  have G2 : (vs ++ [u]).getD vs.length 0 = u := by simp [List.getD_eq_getElem?_getD]
  have hm : ∀ k, k < vs.length → vs.getD k 0 ∈ vs := fun k hk => by rw [List.getD_eq_getElem?_getD, List.getElem?_eq_getElem hk]; exact List.getElem_mem hk
  refine ⟨by simpa using hl, fun k hk => ?_, fun w hw hn => ?_⟩
  · have hk' : k < vs.length + 1 := by simpa using hk
    by_cases e : k = vs.length
    · subst e; rw [G2, S, if_pos rfl]; exact ⟨hu, rfl⟩
    · rw [G k (by omega), S, if_neg (fun e1 : vs.getD k 0 = u => hv (e1 ▸ hm k (by omega)))]
      exact h.at_ k (by omega)
  · rw [S] at hn
    by_cases e : w = u
    · exact ⟨vs.length, by simp, by rw [G2, e]⟩
    · rw [if_neg e] at hn
      obtain ⟨k, hk, e2⟩ := h.no w hw hn
      exact ⟨k, by simp; omega, by rw [G k hk, e2]⟩
theorem Pl.pop {n m : Nat} {vs : List Nat} {pl : List Int} (h : Pl n vs pl) (hm : vs.length = m + 1) : Pl n (vs.take m) (pl.set (vs.getD m 0) (-1)) := by
  have hl := h.len
  have ⟨am, _⟩ := h.at_ m (by omega)
  have S := setD pl (vs.getD m 0) (-1) (by omega)
  have G : ∀ k, k < m → (vs.take m).getD k 0 = vs.getD k 0 := fun k hk => by simp [List.getD_eq_getElem?_getD, hk]
  have hlm : (vs.take m).length = m := by simp; omega
  refine ⟨by simpa using hl, fun k hk => ?_, fun w hw hn => ?_⟩
  · rw [hlm] at hk
    rw [G k hk, S, if_neg (fun e => by have := h.inj (by omega) (by omega) e; omega)]
    exact h.at_ k (by omega)
  · rw [S] at hn
    by_cases e : w = vs.getD m 0
    · rw [if_pos e] at hn; exact absurd rfl hn
    · rw [if_neg e] at hn
      obtain ⟨k, hk, e2⟩ := h.no w hw hn
      have : k ≠ m := fun e3 => e (by rw [← e2, e3])
      exact ⟨k, by omega, by rw [G k (by omega), e2]⟩
/-- From m on two rows are the same. -/
def Sm (m : Nat) (vs' vs : List Nat) : Prop := ∀ k, m ≤ k → vs'.getD k 0 = vs.getD k 0
theorem Sm.refl (m : Nat) (vs : List Nat) : Sm m vs vs := fun _ _ => rfl
theorem Sm.swp {m i j : Nat} {vs' vs : List Nat} (h : Sm m vs' vs) (hi : i < m) (hj : j < m) (hm : m ≤ vs'.length) : Sm m (swp vs' i j) vs := fun k hk => by
  rw [swp_get (by omega) (by omega), if_neg (by omega), if_neg (by omega)]; exact h k hk
theorem take_last {m : Nat} {vs : List Nat} (h : vs.length = m + 1) : vs = vs.take m ++ [vs.getD m 0] := by
  rw [getD_el vs (by omega)]
  have := List.take_append_drop m vs
  rw [List.drop_eq_getElem_cons (by omega), List.drop_eq_nil_of_le (by omega)] at this
  exact this.symm
/-- What is left, the last one gone. -/
theorem take_perm {m u : Nat} {vs L : List Nat} (h : vs.length = m + 1) (hu : vs.getD m 0 = u) (hp : vs.Perm L) : (vs.take m).Perm (L.erase u) := by
  have h1 : vs.Perm (u :: vs.take m) := by
    have := take_last h
    rw [hu] at this
    have h2 : (vs.take m ++ [u]).Perm (u :: vs.take m) := List.perm_append_comm
    rw [← this] at h2
    exact h2
  have hm : u ∈ L := hp.mem_iff.1 (h1.mem_iff.2 (.head _))
  exact (h1.symm.trans (hp.trans (List.perm_cons_erase hm))).cons_inv
theorem HO.take {s : List Int} {m : Nat} {vs : List Nat} (h : HO s 0 m vs) (hm : m ≤ vs.length) : HO s 0 (vs.take m).length (vs.take m) := by
  have hl : (vs.take m).length = m := by simp; omega
  have G : ∀ k, k < m → (vs.take m).getD k 0 = vs.getD k 0 := fun k hk => by simp [List.getD_eq_getElem?_getD, hk]
  intro k h1 h2 h3
  rw [hl] at h2
  unfold Ok
  rw [G k h2, G _ (by omega)]
  exact h k h1 h2 h3
theorem HO.nil (s : List Int) (vs : List Nat) : HO s 0 0 vs := fun k h1 h2 h3 => by omega
end Hpp
